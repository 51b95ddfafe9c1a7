/- Several texts in one: Last5, TreeSPutA, TreeIPutK, TreeIPut. -/
import Derived.Test.YthopkhpiikiknaaGreatPkBF
namespace Go.Proofs.YthopkhpiikiknaaGreat
open Go.RowKit
set_option maxRecDepth 100000
set_option linter.unusedSimpArgs false
set_option linter.unusedVariables false

section
variable {P : Program} {md : Region.Mode} {ops : Array Oper} {Q : Exit → Act → World → Prop} {S : World → Prop} {f : Nat}
/-- Three may come up: each is carried out. -/
theorem but_three {i j k : Nat} {oi oj ok : Oper} {n : Nat} {listed : Array Bool} {a : Act} {w : World} (hr : Region.ready md ops listed = [i, j, k]) (hoi : ops[i]? = some oi) (hoj : ops[j]? = some oj) (hok : ops[k]? = some ok) (hwi : Region.wanted oi (yielded ops a.tmps) = true) (hwj : Region.wanted oj (yielded ops a.tmps) = true) (hwk : Region.wanted ok (yielded ops a.tmps) = true)
  (h : ∀ K : Act → World → Prop, Hid (∀ a' w', (i ≠ f → S w') → anyBut P md ops Q S f n (listed.setIfInBounds i true) a' w' → K a' w') → Oper.wp P oi a w K Q)
  (h' : ∀ K : Act → World → Prop, Hid (∀ a' w', (j ≠ f → S w') → anyBut P md ops Q S f n (listed.setIfInBounds j true) a' w' → K a' w') → Oper.wp P oj a w K Q)
  (h'' : ∀ K : Act → World → Prop, Hid (∀ a' w', (k ≠ f → S w') → anyBut P md ops Q S f n (listed.setIfInBounds k true) a' w' → K a' w') → Oper.wp P ok a w K Q) : anyBut P md ops Q S f (n + 1) listed a w := by
 refine ⟨fun h0 => (by rw [h0] at hr; cases hr), fun m hm => ?_⟩
 rw [hr] at hm
 simp only [List.mem_cons, List.not_mem_nil, or_false] at hm
 rcases hm with rfl | rfl | rfl
 ·have h1 := h (fun a' w' => (m ≠ f → S w') ∧ anyBut P md ops Q S f n (listed.setIfInBounds m true) a' w') (Lib.hid (fun a' w' h2 h3 => ⟨h2, h3⟩))
  unfold wpOp
  simp only [hoi, hwi, if_true]
  exact .inl h1
 ·have h1 := h' (fun a' w' => (m ≠ f → S w') ∧ anyBut P md ops Q S f n (listed.setIfInBounds m true) a' w') (Lib.hid (fun a' w' h2 h3 => ⟨h2, h3⟩))
  unfold wpOp
  simp only [hoj, hwj, if_true]
  exact .inl h1
 ·have h1 := h'' (fun a' w' => (m ≠ f → S w') ∧ anyBut P md ops Q S f n (listed.setIfInBounds m true) a' w') (Lib.hid (fun a' w' h2 h3 => ⟨h2, h3⟩))
  unfold wpOp
  simp only [hok, hwk, if_true]
  exact .inl h1
end
end Go.Proofs.YthopkhpiikiknaaGreat
namespace Go.Proofs.YthopkhpiikiknaaGreat
open Go.RowKit
set_option maxRecDepth 100000
set_option linter.unusedSimpArgs false
set_option linter.unusedVariables false
theorem spot_ok {x : KeyD} (h : okK x = true) : 0 ≤ x.a ∧ x.a ≤ 15 ∧ 1 ≤ x.b ∧ x.b ≤ 60 ∧ spotI x.a x.b = 64 * x.a + x.b := by
 unfold okK keyOkB at h
 simp only [Bool.and_eq_true, decide_eq_true_iff] at h
 obtain ⟨⟨⟨⟨h1, h2⟩, h3⟩, h4⟩, _⟩ := h
 refine ⟨h1, h2, h3, h4, ?_⟩
 unfold spotI
 rw [show wrap64 (64 * x.a) = 64 * x.a by unfold wrap64; omega]
 unfold wrap64
 omega
theorem where_ge {lo : List Int} {s : Int} (h0 : 0 < lo.length) (h : lo.getD 0 0 ≤ s) : 0 ≤ whereK lo s := by
 have key : ∀ k, 1 ≤ k → k ≤ lo.length → 0 ≤ whereK (lo.take k) s := by
  intro k
  induction k with
  |zero => intro h1; omega
  |succ k ih =>
   intro _ hk
   rw [whereK_take (show k < lo.length by omega)]
   split
   ·omega
   ·rename_i hne
    rcases Nat.eq_zero_or_pos k with rfl | hp
    ·rw [getD_at h0] at h; exact absurd h hne
    ·exact ih hp (by omega)
 have := key lo.length h0 (Nat.le_refl _)
 rwa [List.take_length] at this
theorem reb_long {ns : List (List KeyD)} {x : KeyD} (h : FineN ns) (hx : okK x = true) (hok : putNB ns x = false) : 9 ≤ (rebK ns x).length := by
 unfold putNB at hok
 rw [Bool.or_eq_false_iff] at hok
 refine Nat.le_of_not_lt (fun hlt => ?_)
 have := new_ok (l := rebK ns x) (drop_asc ((keys_asc ns).put x)) (drop_ok (ok_put (keys_ok h) hx)) (by omega)
 rw [this] at hok
 cases hok.2
theorem fit_at {lo : List Int} {ts : List NodeD} (h : TreeP lo ts) {i : Nat} (hi : i < ts.length) : FitP lo i ts[i] := of_decide_eq_true (by have := h.2.2.2.2.2.1 i hi; rw [getD_node hi] at this; exact this)
theorem ok_small {ns : NodeD} (h : nodeOkB ns = true) : ns.length ≤ 3 ∧ sumN ns ≤ 8 := by
 unfold nodeOkB at h
 simp only [Bool.and_eq_true, decide_eq_true_iff] at h
 exact ⟨h.1.2, h.2⟩
theorem mid_eq {lo : List Int} {ts : List NodeD} {x : KeyD} {i : Nat} (h : whereK lo (spotI x.a x.b) = (i : Int)) (hi : i < ts.length) (hl : i < lo.length) :
  midK lo ts x = if putNB ts[i] x = false then (setL lo i [lo[i], spotI ((rebK ts[i] x).getD (halfK (rebK ts[i] x)) zK).a ((rebK ts[i] x).getD (halfK (rebK ts[i] x)) zK).b] (i + 1), setL ts i [nodeNewK ((rebK ts[i] x).take (halfK (rebK ts[i] x))), nodeNewK ((rebK ts[i] x).drop (halfK (rebK ts[i] x)))] (i + 1))
   else if 0 < i ∧ (nodeKeysK (putN ts[i] x)).length = 0 then (setL lo i [] (i + 1), setL ts i [] (i + 1))
   else (setL lo i [lo[i]] (i + 1), setL ts i [putN ts[i] x] (i + 1)) := by
 unfold midK
 rw [h]
 simp only [Int.toNat_natCast, getD_node hi, getD_at hl]
theorem join_inv : ∀ (n : Nat) (t : TreeD), t.1.length = t.2.length → (joinGo n t).1.length = (joinGo n t).2.length ∧ (joinGo n t).2.length ≤ t.2.length ∧ sumT (joinGo n t).2 ≤ sumT t.2 := by
 intro n
 induction n with
 |zero => intro t h; exact ⟨h, Nat.le_refl _, Nat.le_refl _⟩
 |succ n ih =>
  intro t h
  simp only [joinGo]
  split
  ·rename_i hp
   have hlt := pair_lt hp
   have h1 := joinAt_len t _ hlt
   have h2 := joinAt_sum t _ hlt
   have h3 : (joinAt t (pairK t.2).toNat).1.length = (joinAt t (pairK t.2).toNat).2.length := by
    have h4 : (joinAt t (pairK t.2).toNat).1.length + 1 = t.1.length := by
     unfold joinAt
     simp
     omega
    omega
   obtain ⟨a, b, c⟩ := ih _ h3
   exact ⟨a, by omega, by omega⟩
  ·exact ⟨h, Nat.le_refl _, Nat.le_refl _⟩
theorem sumT_setL (ts : List NodeD) {i j : Nat} (hij : i ≤ j) (m : List NodeD) : sumT (setL ts i m j) ≤ sumT ts + sumT m := by
 unfold setL
 rw [sumT_append, sumT_append]
 have h4 := sumT_append (ts.take j) (ts.drop j)
 rw [List.take_append_drop] at h4
 have h5 := sumT_append ((ts.take j).take i) ((ts.take j).drop i)
 rw [List.take_append_drop, List.take_take, Nat.min_eq_left hij] at h5
 omega
theorem reads_kvl {w : World} {B b off c : Nat} {l : List KeyD} (hb : b < B) (hc : l.length ≤ c) (hm : c ≤ maxLen) (h : ∀ i (hi : i < (kvl l).length), w.cell? ⟨b, off + i, none⟩ = some (kvl l)[i]) : Reads w B (.slice (some ⟨b, off, none⟩) l.length c) (keysD l) := by
 refine .row b off l.length c _ 5 (kvl l) _ hb hc hm (keys_len l) (by rw [kvl_len, keys_len]) h (fun i h1 h2 => ?_)
 have e : (l.flatMap kC)[i] = .lit (kvl l)[i] := by
  have h3 := kC_map l
  have h4 : (l.flatMap kC)[i]? = some (.lit (kvl l)[i]) := by rw [h3]; simp [h1]
  rw [List.getElem?_eq_getElem h2] at h4
  exact Option.some.inj h4
 rw [e]
 exact .lit _
theorem RowK.parts {w : World} {base : Nat} {A : Option Addr} {n c : Nat} {l : List KeyD} (h : RowK w base (.slice A n c) l) (k : Nat) (hkl : k < l.length) : ∃ g, A = some ⟨g, 0, none⟩ ∧ l.length ≤ c ∧ Reads w w.heap.size (.slice (some ⟨g, 0, none⟩) k c) (keysD (l.take k)) ∧ Reads w w.heap.size (.slice (some ⟨g, k * 5, none⟩) (l.length - k) (c - k)) (keysD (l.drop k)) ∧ Five w g (k * 5) l[k] := by
 have hr := h.owns.reads
 obtain ⟨A', c', hv, hc, hm⟩ := hr.shapeK
 cases hv
 rcases row_cases (h : w.ownsRow _ _ _ _ _ _) with ⟨_, h0, _⟩ | ⟨g, cap, hv, _, hR, _, _, _⟩
 ·omega
 ·cases hv
  have hkv : kvl l = kvl (l.take k) ++ kvl (l.drop k) := by rw [← kvl_append, List.take_append_drop]
  have hl1 : (kvl (l.take k)).length = k * 5 := by rw [kvl_len, List.length_take, Nat.min_eq_left (by omega)]
  have hcell : ∀ i (hi : i < (kvl l).length), w.cell? ⟨g, i, none⟩ = some (kvl l)[i] := fun i hi => hR.cell hi
  refine ⟨g, rfl, hc, ?_, ?_, ?_⟩
  ·have h1 := reads_kvl (w := w) (B := w.heap.size) (b := g) (off := 0) (c := c) (l := l.take k) hR.lt (by simp; omega) hm (fun i hi => by
    rw [Nat.zero_add, hcell i (by rw [hkv, List.length_append]; omega)]
    simp only [hkv]
    rw [List.getElem_append_left hi])
   rw [show (l.take k).length = k by simp; omega] at h1
   exact h1
  ·have h1 := reads_kvl (w := w) (B := w.heap.size) (b := g) (off := k * 5) (c := c - k) (l := l.drop k) hR.lt (by simp; omega) (by omega) (fun i hi => by
    rw [hcell (k * 5 + i) (by rw [hkv, List.length_append, hl1]; omega)]
    simp only [hkv]
    rw [List.getElem_append_right (by omega)]
    simp only [hl1, Nat.add_sub_cancel_left])
   rw [show (l.drop k).length = l.length - k by simp] at h1
   exact h1
  ·obtain ⟨b', off', he, _, hc'⟩ := hr.keys hkl
   cases he
   have := hc' k hkl
   rw [Nat.zero_add] at this
   exact this
theorem treeP_small' {lo : List Int} {ts : List NodeD} (hp : TreeP lo ts) : lo.length ≤ 20 ∧ ts.length ≤ 20 ∧ sumT ts ≤ 220 := by
 refine ⟨by rw [hp.2.2.1]; exact hp.2.1, hp.2.1, ?_⟩
 have h1 : ∀ m, m ≤ ts.length → sumT (ts.take m) ≤ m * 11 := by
  intro m
  induction m with
  |zero => intro _; simp [sumT]
  |succ m ih =>
   intro hm
   have hlt : m < ts.length := by omega
   rw [sumT_take hlt]
   have := ok_small (fit_at hp hlt).1
   have := ih (by omega)
   omega
 have := h1 ts.length (Nat.le_refl _)
 rw [List.take_length] at this
 have := hp.2.1
 omega
/-- A call leaves a tree and a word. -/
def PutsT (w : World) (t : TreeD) (b : Bool) (e : Ending) (w' : World) : Prop := ∃ vl vn, e = .returned (.tuple #[.agg #[vl, vn], .bool b]) ∧ TreeS w' (fun b => w.heap.size ≤ b) vl vn t.1 t.2 ∧ Below w.heap.size w w'
end Go.Proofs.YthopkhpiikiknaaGreat
namespace Go.Proofs.YthopkhpiikiknaaGreat
open Go.RowKit
set_option maxRecDepth 100000
set_option linter.unusedSimpArgs false
set_option linter.unusedVariables false

theorem splitNode_at (vl vn : Value) (lo : List Int) (ts : List NodeD) (i : Nat) (AK : Option Addr) (cK : Nat) (L : List KeyD) (n : Nat) (S : Nat → Prop) (w : World) (hv : TreeC w S vl vn lo ts) (hlen : lo.length = ts.length) (hi : i < lo.length) (hn : lo.length ≤ 1000000) (h9 : L.length = 9) (hln : L.length = n) (hk : Reads w w.heap.size (.slice AK n cK) (keysD L)) :
  Calls Tryz.prog 80 #[.agg #[vl, vn], .int .i64 (i : Int), .slice AK n cK] w (MakesC w (fun b => S b ∨ w.heap.size ≤ b) (setL lo i [lo[i], spotI (L[5]'(by omega)).a (L[5]'(by omega)).b] (i + 1)) (setL ts i [nodeNewK (L.take 5), nodeNewK (L.drop 5)] (i + 1))) := by
 have e : n = 9 := by omega
 subst e
 exact splitNode_any vl vn lo ts i AK cK L S w hv hlen hi hn h9 hk
theorem put_same {ns : List (List KeyD)} {x : KeyD} (h : putNB ns x = false) : putN ns x = ns := by
 unfold putNB at h
 rw [Bool.or_eq_false_iff] at h
 unfold putN
 rw [h.1, h.2]
 rfl
set_option maxHeartbeats 16000000 in
theorem putKey_any (vl vn : Value) (lo : List Int) (ts : List NodeD) (x : KeyD) (S : Nat → Prop) (w : World) (hv : TreeC w S vl vn lo ts) (htp : TreeP lo ts) (hx : okK x = true) (hs : sumT ts ≤ 1048576) :
  Calls Tryz.prog 37 #[.agg #[vl, vn], x.v] w (MakesC w (fun b => S b ∨ w.heap.size ≤ b) (midK lo ts x).1 (midK lo ts x).2) := by
 obtain ⟨A, c, B, d, rfl, rfl⟩ := hv.reads.shape
 have hb3 := bal3 w (.cells #[.slice A lo.length c, .slice B ts.length d] 27) (.cells #[.int .i64 x.a, .int .i64 x.b, .int .i64 x.c, .int .i64 x.d, .int .i64 x.e] 29) (.cells #[.slice none 0 0, .slice none 0 0] 27)
 obtain ⟨q0, q1, q2⟩ := al3 w (.cells #[.slice A lo.length c, .slice B ts.length d] 27) (.cells #[.int .i64 x.a, .int .i64 x.b, .int .i64 x.c, .int .i64 x.d, .int .i64 x.e] 29) (.cells #[.slice none 0 0, .slice none 0 0] 27)
 have hz3 : (((w.alloc (.cells #[.slice A lo.length c, .slice B ts.length d] 27)).alloc (.cells #[.int .i64 x.a, .int .i64 x.b, .int .i64 x.c, .int .i64 x.d, .int .i64 x.e] 29)).alloc (.cells #[.slice none 0 0, .slice none 0 0] 27)).heap.size = w.heap.size + 3 := by simp
 have hlen : lo.length = ts.length := htp.2.2.1
 have hts1 := htp.1
 have hts20 := htp.2.1
 have hsp := spot_ok hx
 have hwg : 0 ≤ whereK lo (spotI x.a x.b) := where_ge (by omega) (by rw [htp.2.2.2.1]; omega)
 have hwl := whereK_le lo (spotI x.a x.b)
 obtain ⟨i, hwi⟩ : ∃ i : Nat, whereK lo (spotI x.a x.b) = (i : Int) := ⟨(whereK lo (spotI x.a x.b)).toNat, by omega⟩
 have hi : i < lo.length := by omega
 have hit : i < ts.length := by omega
 have hmid := mid_eq hwi hit hi
 have hst := sumT_mem (List.getElem_mem hit)
 have hfit := fit_at htp hit
 have hfine := hfit.1
 have hsm := ok_small hfine
 obtain ⟨PB, hPB⟩ : ∃ b, putNB ts[i] x = b := ⟨_, rfl⟩
 obtain ⟨PN, hPN⟩ : ∃ n, putN ts[i] x = n := ⟨_, rfl⟩
 have HW := Lib.hid hwi
 have HMID0 := Lib.hid hmid
 have HPB := Lib.hid hPB
 have HPN := Lib.hid hPN
 have HT := Lib.hid (hv.lt.on hb3)
 have HB := Lib.hid hb3
 have QT := Lib.hid q0
 have QK := Lib.hid q1
 have QR := Lib.hid q2
 have HZ := Lib.hid hz3
 have HLEN := Lib.hid hlen
 have HKX := Lib.hid hx
 have hfn := fine_of hfine
 have HFIN := Lib.hid hfn
 have hvr := hv.reads.on hb3
 obtain ⟨gl, offl, hAe, hbl, hcl⟩ := hvr.1.int hi
 subst hAe
 obtain ⟨gn, offn, hBe, hbn, hcn⟩ := hvr.2.node hit
 subst hBe
 obtain ⟨Aa, da, e1, _, _, r1⟩ := hcn i hit
 have E3 := Lib.hid (hcl i hi)
 unfold iV at E3
 have E1 := Lib.hid e1
 have R1 := Lib.hid r1
 have HNP := Lib.hid (fun V (h : Reads V V.heap.size (.slice Aa (ts[i]).length da) (setsD ts[i])) => implNodePut_any (.slice Aa (ts[i]).length da) ts[i] x V h (by omega) (by omega))
 have HSP := Lib.hid implSetPut_any
 unfold PutsN KeyD.v keyV at HNP
 unfold KeyD.v keyV at HSP
 unfold KeyD.v keyV
 have h2a := Nat.le_of_eq hlen
 have h2b := Nat.le_of_eq hlen.symm
 have i2 : (0 : Int) ≤ (i : Int) := by omega
 have i4 : (i : Int) < (ts.length : Int) := by omega
 have i16 : (i : Int) < (lo.length : Int) := by omega
 have i6 : IntKind.i64.wrap ((i : Int) + 1) = (i : Int) + 1 := by rw [IntKind.wrap_i64]; omega
 clear hv hb3 q0 q1 q2 hz3 hlen hsp hwg hwl hwi hmid hfit hfine hPB hPN hvr hcl hcn e1 r1 hx htp hfn
 go_enter Tryz.func37, Tryz.ntmps37
 go_upto_region 1 with (fail)
 generalize ((w.alloc (.cells #[.slice (some ⟨gl, offl, none⟩) lo.length c, .slice (some ⟨gn, offn, none⟩) ts.length d] 27)).alloc (.cells #[.int .i64 x.a, .int .i64 x.b, .int .i64 x.c, .int .i64 x.d, .int .i64 x.e] 29)).alloc (.cells #[.slice none 0 0, .slice none 0 0] 27) = W at *
 have hzW := Nat.le_of_eq HZ.out.symm
 obtain ⟨x0, x1, x2⟩ := box2 QT.out
 obtain ⟨k0, k1, k2, k3, k4, k5⟩ := box5 QK.out
 go_wp2_with fail
 refine (implWhereIn_any _ _ lo ts x.a x.b _ HT.out.reads (by omega)).mono ?_
 rintro e W2 ⟨rfl, b2⟩
 rw [HW.out]
 have hz2 := b2.size
 replace E3 := Lib.hid ((b2.cell (p := ⟨gl, offl + i, none⟩) hbl).trans E3.out)
 replace E1 := Lib.hid ((b2.cell (p := ⟨gn, offn + i, none⟩) hbn).trans E1.out)
 replace R1 := Lib.hid (R1.out.on b2)
 replace HT := Lib.hid (HT.out.on b2)
 replace QT := Lib.hid (box_on QT.out b2)
 replace QK := Lib.hid (box_on QK.out b2)
 replace QR := Lib.hid (box_on QR.out b2)
 replace HB := Lib.hid (bstep HB.out b2)
 replace hbl : gl < W2.heap.size := by omega
 replace hbn : gn < W2.heap.size := by omega
 clear b2 x0 x1 x2 k0 k1 k2 k3 k4 k5 HZ
 go_upto_region 2 with (fail)
 go_cut [6, 7] (fun s6 s7 wx => ∃ (pn : Nat) (Ax : Option Addr) (cx : Nat), s6 = .pointer (some ⟨pn, 0, none⟩) ∧ s7 = .bool PB ∧ W2.heap.size ≤ pn ∧ Hid (wx.heap[pn]? = some (.cells #[.slice Ax PN.length cx] 62 (0, 0))) ∧ Hid (Owns wx (fun b => W2.heap.size ≤ b ∧ b ≠ pn) (.slice Ax PN.length cx) (setsD PN)) ∧ Hid (Below W2.heap.size W2 wx))
 case first =>
   refine but_begin (f := 12) (S := fun V => Below W2.heap.size W2 V) (by kernel_rfl) ?_
   have hS0m : Below W2.heap.size W2 W2.drew := Below.drew1 _
   generalize W2.drew = Udm at *
   refine but_take (f := 12) (i := 0) (v := ?vm0) rfl (by kernel_rfl) (by kernel_rfl) (by kernel_rfl) (by kernel_rfl) (by kernel_rfl) (fun _ _ _ h => h) (Or.inl ⟨(by rfl), ?hym0⟩) hS0m ?restm0
   case hym0 =>
    intro W hW
    go_simp
    exact rfl
   simp only [List.getElem_toArray, List.getElem_cons_succ, List.getElem_cons_zero, Act.put, List.setIfInBounds_toArray, List.set_cons_zero, List.set_cons_succ]
   refine but_take (f := 12) (i := 1) (v := ?vm1) rfl (by kernel_rfl) (by kernel_rfl) (by kernel_rfl) (by kernel_rfl) (by kernel_rfl) (fun _ _ _ h => h) (Or.inl ⟨(by rfl), ?hym1⟩) hS0m ?restm1
   case hym1 =>
    intro W hW
    obtain ⟨x0, x1, x2⟩ := box2 (box_on QT.out hW)
    go_simp
    exact rfl
   simp only [List.getElem_toArray, List.getElem_cons_succ, List.getElem_cons_zero, Act.put, List.setIfInBounds_toArray, List.set_cons_zero, List.set_cons_succ]
   refine but_take (f := 12) (i := 2) (v := ?vm2) rfl (by kernel_rfl) (by kernel_rfl) (by kernel_rfl) (by kernel_rfl) (by kernel_rfl) (fun _ _ _ h => h) (Or.inl ⟨(by rfl), ?hym2⟩) hS0m ?restm2
   case hym2 =>
    intro W hW
    go_simp
    exact rfl
   simp only [List.getElem_toArray, List.getElem_cons_succ, List.getElem_cons_zero, Act.put, List.setIfInBounds_toArray, List.set_cons_zero, List.set_cons_succ]
   refine but_take (f := 12) (i := 3) (v := ?vm3) rfl (by kernel_rfl) (by kernel_rfl) (by kernel_rfl) (by kernel_rfl) (by kernel_rfl) (fun _ _ _ h => h) (Or.inl ⟨(by rfl), ?hym3⟩) hS0m ?restm3
   case hym3 =>
    intro W hW
    go_simp
    exact rfl
   simp only [List.getElem_toArray, List.getElem_cons_succ, List.getElem_cons_zero, Act.put, List.setIfInBounds_toArray, List.set_cons_zero, List.set_cons_succ]
   refine but_take (f := 12) (i := 4) (v := ?vm4) rfl (by kernel_rfl) (by kernel_rfl) (by kernel_rfl) (by kernel_rfl) (by kernel_rfl) (fun _ _ _ h => h) (Or.inl ⟨(by rfl), ?hym4⟩) hS0m ?restm4
   case hym4 =>
    intro W hW
    have e1 := (hW.cell (p := ⟨gn, offn + i, none⟩) hbn).trans E1.out
    go_simp
    exact rfl
   simp only [List.getElem_toArray, List.getElem_cons_succ, List.getElem_cons_zero, Act.put, List.setIfInBounds_toArray, List.set_cons_zero, List.set_cons_succ]
   refine but_take (f := 12) (i := 5) (v := ?vm5) rfl (by kernel_rfl) (by kernel_rfl) (by kernel_rfl) (by kernel_rfl) (by kernel_rfl) (fun _ _ _ h => h) (Or.inl ⟨(by rfl), ?hym5⟩) hS0m ?restm5
   case hym5 =>
    intro W hW
    obtain ⟨k0, k1, k2, k3, k4, k5⟩ := box5 (box_on QK.out hW)
    go_simp
    exact rfl
   simp only [List.getElem_toArray, List.getElem_cons_succ, List.getElem_cons_zero, Act.put, List.setIfInBounds_toArray, List.set_cons_zero, List.set_cons_succ]
   refine but_two (i := 6) (j := 10) (by kernel_rfl) rfl rfl (by rfl) (by rfl) ?_ ?_
   ·simp only [List.getElem_toArray, List.getElem_cons_succ, List.getElem_cons_zero]
    intro K HK
    go_wp2_with fail
    refine (HNP.out _ (R1.out.on hS0m)).mono ?_
    rintro r Vmp1 ⟨vx, rfl, ox, hbmp1⟩
    rw [HPB.out]
    rw [HPN.out] at ox
    obtain ⟨Ax, cx, rfl, _, _⟩ := ox.reads.lenN
    go_wp2_with fail
    have hSmp1 : (fun V => Below W2.heap.size W2 V) Vmp1 := bstep hS0m hbmp1
    refine HK.out _ _ (fun _ => hSmp1) ?_
    clear HK
    have OX := Lib.hid (ox.lt.mono (T := fun b => W2.heap.size ≤ b ∧ b < Vmp1.heap.size) (fun b hb => ⟨Nat.le_trans (hS0m).size hb.1, hb.2⟩))
    clear ox
    refine but_take (f := 12) (i := 7) (v := ?vmp7) rfl (by kernel_rfl) (by kernel_rfl) (by kernel_rfl) (by kernel_rfl) (by kernel_rfl) (fun _ _ _ h => h) (Or.inl ⟨(by rfl), ?hymp7⟩) hSmp1 ?restmp7
    case hymp7 =>
     intro W hW
     go_simp
     exact rfl
    simp only [List.getElem_toArray, List.getElem_cons_succ, List.getElem_cons_zero, Act.put, List.setIfInBounds_toArray, List.set_cons_zero, List.set_cons_succ]
    refine but_take (f := 12) (i := 8) (v := ?vmp8) rfl (by kernel_rfl) (by kernel_rfl) (by kernel_rfl) (by kernel_rfl) (by kernel_rfl) (fun _ _ _ h => h) (Or.inl ⟨(by rfl), ?hymp8⟩) hSmp1 ?restmp8
    case hymp8 =>
     intro W hW
     go_simp
     exact rfl
    simp only [List.getElem_toArray, List.getElem_cons_succ, List.getElem_cons_zero, Act.put, List.setIfInBounds_toArray, List.set_cons_zero, List.set_cons_succ]
    refine but_take (f := 12) (i := 9) (v := ?vmp9) rfl (by kernel_rfl) (by kernel_rfl) (by kernel_rfl) (by kernel_rfl) (by kernel_rfl) (fun _ _ _ h => h) (Or.inl ⟨(by rfl), ?hymp9⟩) hSmp1 ?restmp9
    case hymp9 =>
     intro W hW
     go_simp
     exact rfl
    simp only [List.getElem_toArray, List.getElem_cons_succ, List.getElem_cons_zero, Act.put, List.setIfInBounds_toArray, List.set_cons_zero, List.set_cons_succ]
    refine but_run (i := 10) (by kernel_rfl) rfl (by rfl) ?_
    simp only [List.getElem_toArray, List.getElem_cons_succ, List.getElem_cons_zero]
    intro K HK
    go_wp2_with fail
    have hSmp2 : (fun V => Below W2.heap.size W2 V) (Vmp1.alloc (.cells #[.slice none 0 0] 62)) := bstep hSmp1 (bal1 _ _)
    refine HK.out _ _ (fun _ => hSmp2) ?_
    clear HK
    have QN := Lib.hid (al1 Vmp1 (.cells #[.slice none 0 0] 62))
    obtain ⟨pn, hpn⟩ : ∃ p, Vmp1.heap.size = p := ⟨_, rfl⟩
    have hpn2 : W2.heap.size ≤ pn := by rw [← hpn]; exact (hSmp1).size
    have hpl : pn < (Vmp1.alloc (.cells #[.slice none 0 0] 62)).heap.size := by rw [← hpn]; simp
    replace OX := Lib.hid ((OX.out.on (bal1 Vmp1 (.cells #[.slice none 0 0] 62))).mono (T := fun b => W2.heap.size ≤ b ∧ b ≠ pn) (fun b hb => ⟨hb.1, by have := hb.2; omega⟩))
    rw [hpn] at QN ⊢
    clear hpn
    generalize Vmp1.alloc (.cells #[.slice none 0 0] 62) = Vnmp2 at *
    refine but_run (i := 11) (by kernel_rfl) rfl (by rfl) ?_
    simp only [List.getElem_toArray, List.getElem_cons_succ, List.getElem_cons_zero]
    intro K HK
    obtain ⟨z0, z1⟩ := box1N QN.out
    go_wp2_with fail
    have hSmp3 : (fun V => Below W2.heap.size W2 V) (Vnmp2.setCell ⟨pn, 0, none⟩ (.slice Ax PN.length cx)) := (hSmp2).setCell (p := ⟨pn, 0, none⟩) hpn2 _
    refine HK.out _ _ (fun _ => hSmp3) ?_
    clear HK
    have QN2 := Lib.hid (box_set (i := 0) (u := .slice Ax PN.length cx) QN.out)
    have OX2 := Lib.hid (OX.out.keep (w' := Vnmp2.setCell ⟨pn, 0, none⟩ (.slice Ax PN.length cx)) (fun b hb _ => Below.heap_setCell _ _ _ _ (by simpa using hb.2)))
    refine but_run (i := 12) (by kernel_rfl) rfl (by rfl) ?_
    simp only [List.getElem_toArray, List.getElem_cons_succ, List.getElem_cons_zero]
    intro K HK
    go_wp2_with fail
    refine HK.out _ _ (fun h => absurd rfl h) ?_
    clear HK
    refine but_done (by kernel_rfl) ?_
    go_wp2_with fail
    go_meet
    exact ⟨pn, Ax, cx, rfl, rfl, hpn2, QN2, OX2, Lib.hid (hSmp3)⟩
   ·simp only [List.getElem_toArray, List.getElem_cons_succ, List.getElem_cons_zero]
    intro K HK
    go_wp2_with fail
    have hSmq1 : (fun V => Below W2.heap.size W2 V) (Udm.alloc (.cells #[.slice none 0 0] 62)) := bstep hS0m (bal1 _ _)
    refine HK.out _ _ (fun _ => hSmq1) ?_
    clear HK
    have QN := Lib.hid (al1 Udm (.cells #[.slice none 0 0] 62))
    obtain ⟨pn, hpn⟩ : ∃ p, Udm.heap.size = p := ⟨_, rfl⟩
    have hpn2 : W2.heap.size ≤ pn := by rw [← hpn]; exact (hS0m).size
    have hpl : pn < (Udm.alloc (.cells #[.slice none 0 0] 62)).heap.size := by rw [← hpn]; simp
    rw [hpn] at QN ⊢
    clear hpn
    generalize Udm.alloc (.cells #[.slice none 0 0] 62) = Vnmq1 at *
    refine but_run (i := 6) (by kernel_rfl) rfl (by rfl) ?_
    simp only [List.getElem_toArray, List.getElem_cons_succ, List.getElem_cons_zero]
    intro K HK
    go_wp2_with fail
    refine (HNP.out _ (R1.out.on hSmq1)).mono ?_
    rintro r Vmq2 ⟨vx, rfl, ox, hbmq2⟩
    rw [HPB.out]
    rw [HPN.out] at ox
    obtain ⟨Ax, cx, rfl, _, _⟩ := ox.reads.lenN
    go_wp2_with fail
    have hSmq2 : (fun V => Below W2.heap.size W2 V) Vmq2 := bstep hSmq1 hbmq2
    refine HK.out _ _ (fun _ => hSmq2) ?_
    clear HK
    have OX := Lib.hid (ox.mono (T := fun b => W2.heap.size ≤ b ∧ b ≠ pn) (fun b hb => ⟨Nat.le_trans (hSmq1).size hb, by have := hpl; omega⟩))
    clear ox
    replace QN := Lib.hid (box_on QN.out hbmq2)
    refine but_take (f := 12) (i := 7) (v := ?vmq7) rfl (by kernel_rfl) (by kernel_rfl) (by kernel_rfl) (by kernel_rfl) (by kernel_rfl) (fun _ _ _ h => h) (Or.inl ⟨(by rfl), ?hymq7⟩) hSmq2 ?restmq7
    case hymq7 =>
     intro W hW
     go_simp
     exact rfl
    simp only [List.getElem_toArray, List.getElem_cons_succ, List.getElem_cons_zero, Act.put, List.setIfInBounds_toArray, List.set_cons_zero, List.set_cons_succ]
    refine but_take (f := 12) (i := 8) (v := ?vmq8) rfl (by kernel_rfl) (by kernel_rfl) (by kernel_rfl) (by kernel_rfl) (by kernel_rfl) (fun _ _ _ h => h) (Or.inl ⟨(by rfl), ?hymq8⟩) hSmq2 ?restmq8
    case hymq8 =>
     intro W hW
     go_simp
     exact rfl
    simp only [List.getElem_toArray, List.getElem_cons_succ, List.getElem_cons_zero, Act.put, List.setIfInBounds_toArray, List.set_cons_zero, List.set_cons_succ]
    refine but_take (f := 12) (i := 9) (v := ?vmq9) rfl (by kernel_rfl) (by kernel_rfl) (by kernel_rfl) (by kernel_rfl) (by kernel_rfl) (fun _ _ _ h => h) (Or.inl ⟨(by rfl), ?hymq9⟩) hSmq2 ?restmq9
    case hymq9 =>
     intro W hW
     go_simp
     exact rfl
    simp only [List.getElem_toArray, List.getElem_cons_succ, List.getElem_cons_zero, Act.put, List.setIfInBounds_toArray, List.set_cons_zero, List.set_cons_succ]
    refine but_run (i := 11) (by kernel_rfl) rfl (by rfl) ?_
    simp only [List.getElem_toArray, List.getElem_cons_succ, List.getElem_cons_zero]
    intro K HK
    obtain ⟨z0, z1⟩ := box1N QN.out
    go_wp2_with fail
    have hSmq3 : (fun V => Below W2.heap.size W2 V) (Vmq2.setCell ⟨pn, 0, none⟩ (.slice Ax PN.length cx)) := (hSmq2).setCell (p := ⟨pn, 0, none⟩) hpn2 _
    refine HK.out _ _ (fun _ => hSmq3) ?_
    clear HK
    have QN2 := Lib.hid (box_set (i := 0) (u := .slice Ax PN.length cx) QN.out)
    have OX2 := Lib.hid (OX.out.keep (w' := Vmq2.setCell ⟨pn, 0, none⟩ (.slice Ax PN.length cx)) (fun b hb _ => Below.heap_setCell _ _ _ _ (by simpa using hb.2)))
    refine but_run (i := 12) (by kernel_rfl) rfl (by rfl) ?_
    simp only [List.getElem_toArray, List.getElem_cons_succ, List.getElem_cons_zero]
    intro K HK
    go_wp2_with fail
    refine HK.out _ _ (fun h => absurd rfl h) ?_
    clear HK
    refine but_done (by kernel_rfl) ?_
    go_wp2_with fail
    go_meet
    exact ⟨pn, Ax, cx, rfl, rfl, hpn2, QN2, OX2, Lib.hid (hSmq3)⟩
 case rest =>
  obtain ⟨pn, Ax, cx, rfl, rfl, hpn2, QN, OX, BX⟩ := hcut
  obtain ⟨W3, rfl⟩ : ∃ W, W = wc := ⟨_, rfl⟩
  have hz3 := BX.out.size
  replace E3 := Lib.hid ((BX.out.cell (p := ⟨gl, offl + i, none⟩) hbl).trans E3.out)
  replace HT := Lib.hid (HT.out.on BX.out)
  replace QT := Lib.hid (box_on QT.out BX.out)
  replace QK := Lib.hid (box_on QK.out BX.out)
  replace QR := Lib.hid (box_on QR.out BX.out)
  replace HB := Lib.hid (bstep HB.out BX.out)
  replace hbl : gl < W3.heap.size := by omega
  have hpl : PN.length ≤ 1048576 ∧ sumN PN ≤ 1048576 := by rw [← HPN.out]; exact ⟨Nat.le_trans (putN_small (m := 8) (by omega) (by omega)).1 (by omega), Nat.le_trans (putN_small (m := 8) (by omega) (by omega)).2 (by omega)⟩
  obtain ⟨hpl1, hpl2⟩ := hpl
  have hkl := nodeKeys_len PN
  clear BX E1 R1 HNP hbn
  cases PB
  ·have hpn0 : ts[i] = PN := by rw [← HPN.out, put_same HPB.out]
   have hrl := reb_long HFIN.out HKX.out HPB.out
   have hrl2 := reb_len ts[i] x
   have hmd := HMID0.out
   rw [if_pos HPB.out] at hmd
   rw [hpn0] at hrl hrl2 hmd hsm
   have hLe : rebK PN x = dropK (putK (nodeKeysK PN) x) := rfl
   obtain ⟨L, hL⟩ : ∃ L, dropK (putK (nodeKeysK PN) x) = L := ⟨_, rfl⟩
   rw [hLe, hL] at hrl hrl2 hmd
   have h9 : L.length = 9 := by omega
   have hhalf : halfK L = 5 := by unfold halfK; rw [h9]
   have h5L : 5 < L.length := by omega
   rw [hhalf, show L.getD 5 zK = L[5] by simp [List.getD_eq_getElem?_getD, h5L]] at hmd
   have HMID := Lib.hid hmd
   have HL := Lib.hid hL
   have H9 := Lib.hid h9
   clear hpn0 hrl hrl2 hmd hLe hL h9 hhalf HMID0
   go_upto_region 4 with (fail)
   refine but_begin (f := 8) (S := fun V => Below W3.heap.size W3 V) (by kernel_rfl) ?_
   have hS0n : Below W3.heap.size W3 W3.drew := Below.drew1 _
   generalize W3.drew = Udn at *
   refine but_take (f := 8) (i := 0) (v := ?vn0) rfl (by kernel_rfl) (by kernel_rfl) (by kernel_rfl) (by kernel_rfl) (by kernel_rfl) (fun _ _ _ h => h) (Or.inl ⟨(by rfl), ?hyn0⟩) hS0n ?restn0
   case hyn0 =>
    intro W hW
    obtain ⟨x0, x1, x2⟩ := box2 (box_on QT.out hW)
    go_simp
    exact rfl
   simp only [List.getElem_toArray, List.getElem_cons_succ, List.getElem_cons_zero, Act.put, List.setIfInBounds_toArray, List.set_cons_zero, List.set_cons_succ]
   refine but_take (f := 8) (i := 1) (v := ?vn1) rfl (by kernel_rfl) (by kernel_rfl) (by kernel_rfl) (by kernel_rfl) (by kernel_rfl) (fun _ _ _ h => h) (Or.inl ⟨(by rfl), ?hyn1⟩) hS0n ?restn1
   case hyn1 =>
    intro W hW
    go_simp
    exact rfl
   simp only [List.getElem_toArray, List.getElem_cons_succ, List.getElem_cons_zero, Act.put, List.setIfInBounds_toArray, List.set_cons_zero, List.set_cons_succ]
   refine but_take (f := 8) (i := 2) (v := ?vn2) rfl (by kernel_rfl) (by kernel_rfl) (by kernel_rfl) (by kernel_rfl) (by kernel_rfl) (fun _ _ _ h => h) (Or.inl ⟨(by rfl), ?hyn2⟩) hS0n ?restn2
   case hyn2 =>
    intro W hW
    obtain ⟨n0, n1⟩ := box1N (box_on QN.out hW)
    go_simp
    exact rfl
   simp only [List.getElem_toArray, List.getElem_cons_succ, List.getElem_cons_zero, Act.put, List.setIfInBounds_toArray, List.set_cons_zero, List.set_cons_succ]
   refine but_take (f := 8) (i := 4) (v := ?vn4) rfl (by kernel_rfl) (by kernel_rfl) (by kernel_rfl) (by kernel_rfl) (by kernel_rfl) (fun _ _ _ h => h) (Or.inl ⟨(by rfl), ?hyn4⟩) hS0n ?restn4
   case hyn4 =>
    intro W hW
    obtain ⟨k0, k1, k2, k3, k4, k5⟩ := box5 (box_on QK.out hW)
    go_simp
    exact rfl
   simp only [List.getElem_toArray, List.getElem_cons_succ, List.getElem_cons_zero, Act.put, List.setIfInBounds_toArray, List.set_cons_zero, List.set_cons_succ]
   refine but_run (i := 3) (by kernel_rfl) rfl (by rfl) ?_
   simp only [List.getElem_toArray, List.getElem_cons_succ, List.getElem_cons_zero]
   intro K HK
   go_wp2_with fail
   refine (implNodeKeys_any _ PN _ (OX.out.reads.on hS0n) (by omega) (by omega)).mono ?_
   rintro r Vn1 ⟨v1, rfl, o1, hbn1⟩
   obtain ⟨A1, c1, rfl, _, _⟩ := o1.shape
   go_wp2_with fail
   have hSn1 : (fun V => Below W3.heap.size W3 V) Vn1 := bstep hS0n hbn1
   refine HK.out _ _ (fun _ => hSn1) ?_
   clear HK
   have O1 := Lib.hid o1.owns.reads
   clear o1
   refine but_run (i := 5) (by kernel_rfl) rfl (by rfl) ?_
   simp only [List.getElem_toArray, List.getElem_cons_succ, List.getElem_cons_zero]
   intro K HK
   go_wp2_with fail
   refine (HSP.out _ (nodeKeysK PN) x _ O1.out (by omega)).mono ?_
   rintro r Vn2 ⟨v2, rfl, o2, hbn2⟩
   obtain ⟨A2, c2, rfl, _, _⟩ := o2.shape
   go_wp2_with fail
   have hSn2 : (fun V => Below W3.heap.size W3 V) Vn2 := bstep hSn1 hbn2
   refine HK.out _ _ (fun _ => hSn2) ?_
   clear HK
   have O2 := Lib.hid o2.owns.reads
   clear o2 O1
   refine but_run (i := 6) (by kernel_rfl) rfl (by rfl) ?_
   simp only [List.getElem_toArray, List.getElem_cons_succ, List.getElem_cons_zero]
   intro K HK
   go_wp2_with fail
   refine (implDrop_any _ (putK (nodeKeysK PN) x) _ O2.out (by have := putK_len (nodeKeysK PN) x; omega)).mono ?_
   rintro r Vn3 ⟨v3, rfl, o3, hbn3⟩
   rw [HL.out] at o3
   obtain ⟨A3, c3, rfl, _, _⟩ := o3.shape
   go_wp2_with fail
   have hSn3 : (fun V => Below W3.heap.size W3 V) Vn3 := bstep hSn2 hbn3
   refine HK.out _ _ (fun _ => hSn3) ?_
   clear HK
   have O3 := Lib.hid o3.owns.reads
   clear o3 O2
   refine but_run (i := 7) (by kernel_rfl) rfl (by rfl) ?_
   simp only [List.getElem_toArray, List.getElem_cons_succ, List.getElem_cons_zero]
   intro K HK
   have hsp := splitNode_at _ _ lo ts i A3 c3 L L.length (fun b => S b ∧ b < w.heap.size) _ (HT.out.on hSn3) HLEN.out (by omega) (by omega) H9.out rfl O3.out
   go_wp2_with fail
   refine (hsp).mono ?_
   rintro r Vn4 ⟨vl2, vn2, rfl, tv2, hbn4⟩
   clear hsp
   obtain ⟨A5, c5, B5, d5, rfl, rfl⟩ := tv2.reads.shape
   go_wp2_with fail
   have hSn4 : (fun V => Below W3.heap.size W3 V) Vn4 := bstep hSn3 hbn4
   refine HK.out _ _ (fun _ => hSn4) ?_
   clear HK
   have hzc := (hSn3).size
   have TV := Lib.hid (tv2.mono (T := fun b => (S b ∧ b < w.heap.size) ∨ w.heap.size + 3 ≤ b) (fun b hb => hb.elim .inl (fun h => .inr (by omega))))
   clear tv2 O3
   obtain ⟨y0, y1, y2⟩ := box2 (box_on QR.out hSn4)
   refine but_run (i := 8) (by kernel_rfl) rfl (by rfl) ?_
   simp only [List.getElem_toArray, List.getElem_cons_succ, List.getElem_cons_zero]
   intro K HK
   go_wp2_with fail
   refine HK.out _ _ (fun h => absurd rfl h) ?_
   clear HK
   refine but_done (by kernel_rfl) ?_
   have B5' : Below W3.heap.size W3 Vn4 := hSn4
   have hz5 := B5'.size
   have hb5 := bstep HB.out B5'
   have HO := Lib.hid (only_two Vn4 (w.heap.size + 2) 0 1 (.slice A5 (setL lo i [lo[i], spotI (L[5]'(by have := H9.out; omega)).a (L[5]'(by have := H9.out; omega)).b] (i + 1)).length c5) (.slice B5 (setL ts i [nodeNewK (L.take 5), nodeNewK (L.drop 5)] (i + 1)).length d5))
   have TV8 := Lib.hid ((TV.out.keep (w' := (Vn4.setCell ⟨w.heap.size + 2, 0, none⟩ (.slice A5 (setL lo i [lo[i], spotI (L[5]'(by have := H9.out; omega)).a (L[5]'(by have := H9.out; omega)).b] (i + 1)).length c5)).setCell ⟨w.heap.size + 2, 1, none⟩ (.slice B5 (setL ts i [nodeNewK (L.take 5), nodeNewK (L.drop 5)] (i + 1)).length d5)) (fun b hb hl => HO.out.block b hl (fun e => by rcases hb with hb | hb; (have := hb.2; omega); omega))).mono (T := fun b => S b ∨ w.heap.size ≤ b) (fun b hb => by rcases hb with hb | hb; (exact .inl hb.1); exact .inr (by omega)))
   have HB8 := Lib.hid (hb5.trans (HO.out.below hb5.size (fun b hb => by omega)))
   clear B5' hb5 HO TV
   go_wp2_with fail
   refine bodyPost_ret (v := .agg #[.slice A5 (setL lo i [lo[i], spotI (L[5]'(by have := H9.out; omega)).a (L[5]'(by have := H9.out; omega)).b] (i + 1)).length c5, .slice B5 (setL ts i [nodeNewK (L.take 5), nodeNewK (L.drop 5)] (i + 1)).length d5]) (by simp [results, Tryz.results37, go_sem, *]) rfl ?_
   rw [HMID.out]
   exact ⟨_, _, rfl, TV8.out, HB8.out⟩
  ·have hmd := HMID0.out
   rw [if_neg (by rw [HPB.out]; simp), HPN.out] at hmd
   clear HMID0
   by_cases hi0 : 0 < i
   ·have z0 : decide (0 < i) = true := decide_eq_true hi0
    have z1 : (0 : Int) < (i : Int) := by omega
    obtain ⟨n0, n1⟩ := box1N QN.out
    go_wp2_with fail
    refine (implNodeKeys_any _ PN _ OX.out.reads (by omega) (by omega)).mono ?_
    rintro e W4 ⟨vk, rfl, ok, b4⟩
    obtain ⟨Ak, ck, rfl, _, _⟩ := ok.shape
    have hz4 := b4.size
    replace E3 := Lib.hid ((b4.cell (p := ⟨gl, offl + i, none⟩) hbl).trans E3.out)
    replace HT := Lib.hid (HT.out.on b4)
    replace QT := Lib.hid (box_on QT.out b4)
    replace QK := Lib.hid (box_on QK.out b4)
    replace QR := Lib.hid (box_on QR.out b4)
    replace QN := Lib.hid (box_on QN.out b4)
    replace OX := Lib.hid (OX.out.on b4)
    replace HB := Lib.hid (bstep HB.out b4)
    replace hbl : gl < W4.heap.size := by omega
    clear ok b4 n0 n1
    by_cases hk0 : (nodeKeysK PN).length = 0
    ·have z2 : (((nodeKeysK PN).length : Int) == 0) = true := by simp [hk0]
     rw [if_pos ⟨hi0, hk0⟩] at hmd
     have HMID := Lib.hid hmd
     clear hmd hk0
     obtain ⟨x0, x1, x2⟩ := box2 QT.out
     obtain ⟨y0, y1, y2⟩ := box2 QR.out
     have hrep := replaceNodes_any _ _ lo ts i (i + 1) none 0 [] [] [] (fun b => S b ∧ b < w.heap.size) (fun _ => False) _ HT.out (.inl rfl) rfl rfl (by simp) (OwnsL.nil _ _) (fun b _ h => h) (by omega) (by omega) HLEN.out (by omega) (by omega) (by simp)
     go_wp2_with fail
     refine hrep.mono ?_
     rintro e W5 ⟨vl2, vn2, rfl, tv2, b5⟩
     obtain ⟨A5, c5, B5, d5, rfl, rfl⟩ := tv2.reads.shape
     have TV := Lib.hid (tv2.mono (T := fun b => (S b ∧ b < w.heap.size) ∨ w.heap.size + 3 ≤ b) (fun b hb => by rcases hb with hb | hb | hb; (exact .inl hb); (exact hb.elim); exact .inr (by omega)))
     clear hrep tv2 x0 x1 x2 y0 y1 y2
     obtain ⟨y0, y1, y2⟩ := box2 (box_on QR.out b5)
     have B5' : Below W4.heap.size W4 W5 := b5
     have hz5 := B5'.size
     have hb5 := bstep HB.out B5'
     have HO := Lib.hid (only_two W5 (w.heap.size + 2) 0 1 (.slice A5 (setL lo i [] (i + 1)).length c5) (.slice B5 (setL ts i [] (i + 1)).length d5))
     have TV8 := Lib.hid ((TV.out.keep (w' := (W5.setCell ⟨w.heap.size + 2, 0, none⟩ (.slice A5 (setL lo i [] (i + 1)).length c5)).setCell ⟨w.heap.size + 2, 1, none⟩ (.slice B5 (setL ts i [] (i + 1)).length d5)) (fun b hb hl => HO.out.block b hl (fun e => by rcases hb with hb | hb; (have := hb.2; omega); omega))).mono (T := fun b => S b ∨ w.heap.size ≤ b) (fun b hb => by rcases hb with hb | hb; (exact .inl hb.1); exact .inr (by omega)))
     have HB8 := Lib.hid (hb5.trans (HO.out.below hb5.size (fun b hb => by omega)))
     clear B5' hb5 HO TV
     go_wp2_with fail
     refine bodyPost_ret (v := .agg #[.slice A5 (setL lo i [] (i + 1)).length c5, .slice B5 (setL ts i [] (i + 1)).length d5]) (by simp [results, Tryz.results37, go_sem, *]) rfl ?_
     rw [HMID.out]
     exact ⟨_, _, rfl, TV8.out, HB8.out⟩
    ·have z2 : (((nodeKeysK PN).length : Int) == 0) = false := by simpa using hk0
     rw [if_neg (fun h => hk0 h.2)] at hmd
     have HMID := Lib.hid hmd
     clear hmd hk0
     go_upto_region 7 with (fail)
     refine but_begin (f := 13) (S := fun V => Below W4.heap.size W4 V) (by kernel_rfl) ?_
     have hS0oa : Below W4.heap.size W4 W4.drew := Below.drew1 _
     generalize W4.drew = Udoa at *
     refine but_take (f := 13) (i := 0) (v := ?voa0) rfl (by kernel_rfl) (by kernel_rfl) (by kernel_rfl) (by kernel_rfl) (by kernel_rfl) (fun _ _ _ h => h) (Or.inl ⟨(by rfl), ?hyoa0⟩) hS0oa ?restoa0
     case hyoa0 =>
      intro W hW
      obtain ⟨x0, x1, x2⟩ := box2 (box_on QT.out hW)
      go_simp
      exact rfl
     simp only [List.getElem_toArray, List.getElem_cons_succ, List.getElem_cons_zero, Act.put, List.setIfInBounds_toArray, List.set_cons_zero, List.set_cons_succ]
     refine but_take (f := 13) (i := 1) (v := ?voa1) rfl (by kernel_rfl) (by kernel_rfl) (by kernel_rfl) (by kernel_rfl) (by kernel_rfl) (fun _ _ _ h => h) (Or.inl ⟨(by rfl), ?hyoa1⟩) hS0oa ?restoa1
     case hyoa1 =>
      intro W hW
      go_simp
      exact rfl
     simp only [List.getElem_toArray, List.getElem_cons_succ, List.getElem_cons_zero, Act.put, List.setIfInBounds_toArray, List.set_cons_zero, List.set_cons_succ]
     refine but_take (f := 13) (i := 2) (v := ?voa2) rfl (by kernel_rfl) (by kernel_rfl) (by kernel_rfl) (by kernel_rfl) (by kernel_rfl) (fun _ _ _ h => h) (Or.inl ⟨(by rfl), ?hyoa2⟩) hS0oa ?restoa2
     case hyoa2 =>
      intro W hW
      go_simp
      exact rfl
     simp only [List.getElem_toArray, List.getElem_cons_succ, List.getElem_cons_zero, Act.put, List.setIfInBounds_toArray, List.set_cons_zero, List.set_cons_succ]
     refine but_take (f := 13) (i := 3) (v := ?voa3) rfl (by kernel_rfl) (by kernel_rfl) (by kernel_rfl) (by kernel_rfl) (by kernel_rfl) (fun _ _ _ h => h) (Or.inl ⟨(by rfl), ?hyoa3⟩) hS0oa ?restoa3
     case hyoa3 =>
      intro W hW
      go_simp
      exact rfl
     simp only [List.getElem_toArray, List.getElem_cons_succ, List.getElem_cons_zero, Act.put, List.setIfInBounds_toArray, List.set_cons_zero, List.set_cons_succ]
     refine but_take (f := 13) (i := 4) (v := ?voa4) rfl (by kernel_rfl) (by kernel_rfl) (by kernel_rfl) (by kernel_rfl) (by kernel_rfl) (fun _ _ _ h => h) (Or.inl ⟨(by rfl), ?hyoa4⟩) hS0oa ?restoa4
     case hyoa4 =>
      intro W hW
      go_simp
      exact rfl
     simp only [List.getElem_toArray, List.getElem_cons_succ, List.getElem_cons_zero, Act.put, List.setIfInBounds_toArray, List.set_cons_zero, List.set_cons_succ]
     refine but_take (f := 13) (i := 5) (v := ?voa5) rfl (by kernel_rfl) (by kernel_rfl) (by kernel_rfl) (by kernel_rfl) (by kernel_rfl) (fun _ _ _ h => h) (Or.inl ⟨(by rfl), ?hyoa5⟩) hS0oa ?restoa5
     case hyoa5 =>
      intro W hW
      obtain ⟨x0, x1, x2⟩ := box2 (box_on QT.out hW)
      go_simp
      exact rfl
     simp only [List.getElem_toArray, List.getElem_cons_succ, List.getElem_cons_zero, Act.put, List.setIfInBounds_toArray, List.set_cons_zero, List.set_cons_succ]
     refine but_take (f := 13) (i := 6) (v := ?voa6) rfl (by kernel_rfl) (by kernel_rfl) (by kernel_rfl) (by kernel_rfl) (by kernel_rfl) (fun _ _ _ h => h) (Or.inl ⟨(by rfl), ?hyoa6⟩) hS0oa ?restoa6
     case hyoa6 =>
      intro W hW
      go_simp
      exact rfl
     simp only [List.getElem_toArray, List.getElem_cons_succ, List.getElem_cons_zero, Act.put, List.setIfInBounds_toArray, List.set_cons_zero, List.set_cons_succ]
     refine but_take (f := 13) (i := 7) (v := ?voa7) rfl (by kernel_rfl) (by kernel_rfl) (by kernel_rfl) (by kernel_rfl) (by kernel_rfl) (fun _ _ _ h => h) (Or.inl ⟨(by rfl), ?hyoa7⟩) hS0oa ?restoa7
     case hyoa7 =>
      intro W hW
      go_simp
      exact rfl
     simp only [List.getElem_toArray, List.getElem_cons_succ, List.getElem_cons_zero, Act.put, List.setIfInBounds_toArray, List.set_cons_zero, List.set_cons_succ]
     refine but_take (f := 13) (i := 8) (v := ?voa8) rfl (by kernel_rfl) (by kernel_rfl) (by kernel_rfl) (by kernel_rfl) (by kernel_rfl) (fun _ _ _ h => h) (Or.inl ⟨(by rfl), ?hyoa8⟩) hS0oa ?restoa8
     case hyoa8 =>
      intro W hW
      have e3 := (hW.cell (p := ⟨gl, offl + i, none⟩) hbl).trans E3.out
      go_simp
      exact rfl
     simp only [List.getElem_toArray, List.getElem_cons_succ, List.getElem_cons_zero, Act.put, List.setIfInBounds_toArray, List.set_cons_zero, List.set_cons_succ]
     refine but_take (f := 13) (i := 9) (v := ?voa9) rfl (by kernel_rfl) (by kernel_rfl) (by kernel_rfl) (by kernel_rfl) (by kernel_rfl) (fun _ _ _ h => h) (Or.inl ⟨(by rfl), ?hyoa9⟩) hS0oa ?restoa9
     case hyoa9 =>
      intro W hW
      obtain ⟨n0, n1⟩ := box1N (box_on QN.out hW)
      go_simp
      exact rfl
     simp only [List.getElem_toArray, List.getElem_cons_succ, List.getElem_cons_zero, Act.put, List.setIfInBounds_toArray, List.set_cons_zero, List.set_cons_succ]
     refine but_take (f := 13) (i := 10) (v := ?voa10) rfl (by kernel_rfl) (by kernel_rfl) (by kernel_rfl) (by kernel_rfl) (by kernel_rfl) (fun _ _ _ h => h) (Or.inl ⟨(by rfl), ?hyoa10⟩) hS0oa ?restoa10
     case hyoa10 =>
      intro W hW
      go_simp
      exact rfl
     simp only [List.getElem_toArray, List.getElem_cons_succ, List.getElem_cons_zero, Act.put, List.setIfInBounds_toArray, List.set_cons_zero, List.set_cons_succ]
     refine but_run (i := 11) (by kernel_rfl) rfl (by rfl) ?_
     simp only [List.getElem_toArray, List.getElem_cons_succ, List.getElem_cons_zero]
     intro K HK
     go_wp2_with fail
     have hSoa1 : (fun V => Below W4.heap.size W4 V) (Udoa.alloc (.cells #[.int .i64 lo[i], .slice Ax PN.length cx] 99)) := bstep hS0oa (bal1 _ _)
     refine HK.out _ _ (fun _ => hSoa1) ?_
     clear HK
     have AX := Lib.hid (At.lit2 Udoa (.int .i64 lo[i]) (.slice Ax PN.length cx) 99)
     replace OX := Lib.hid (OX.out.on (bstep hS0oa (bal1 Udoa (.cells #[.int .i64 lo[i], .slice Ax PN.length cx] 99))))
     replace HT := Lib.hid (HT.out.on (bstep hS0oa (bal1 Udoa (.cells #[.int .i64 lo[i], .slice Ax PN.length cx] 99))))
     generalize Udoa.alloc (.cells #[.int .i64 lo[i], .slice Ax PN.length cx] 99) = Vnoa1 at *
     refine but_run (i := 12) (by kernel_rfl) rfl (by rfl) ?_
     simp only [List.getElem_toArray, List.getElem_cons_succ, List.getElem_cons_zero]
     intro K HK
     have hrep := replaceNodes_any _ _ lo ts i (i + 1) _ 1 [lo[i]] [PN] [.slice Ax PN.length cx] (fun b => S b ∧ b < w.heap.size) (fun b => w.heap.size + 3 ≤ b) _ HT.out (show At _ _ (brX ([lo[i]].zip [.slice Ax PN.length cx])) from AX.out) rfl rfl (by simp) (OwnsL.one (OX.out.mono (fun b hb => by have := hb.1; omega))) (fun b hb hb' => by have := hb.2; omega) (by omega) (by omega) HLEN.out (by omega) (by omega) (by simp)
     go_wp2_with fail
     refine (hrep).mono ?_
     rintro r Voa2 ⟨vl2, vn2, rfl, tv2, hboa2⟩
     clear hrep
     obtain ⟨A5, c5, B5, d5, rfl, rfl⟩ := tv2.reads.shape
     go_wp2_with fail
     have hSoa2 : (fun V => Below W4.heap.size W4 V) Voa2 := bstep hSoa1 hboa2
     refine HK.out _ _ (fun _ => hSoa2) ?_
     clear HK
     have hzc := (hSoa1).size
     have TV := Lib.hid (tv2.mono (T := fun b => (S b ∧ b < w.heap.size) ∨ w.heap.size + 3 ≤ b) (fun b hb => by rcases hb with hb | hb | hb; (exact .inl hb); all_goals exact .inr (by omega)))
     clear tv2 AX
     obtain ⟨y0, y1, y2⟩ := box2 (box_on QR.out hSoa2)
     refine but_run (i := 13) (by kernel_rfl) rfl (by rfl) ?_
     simp only [List.getElem_toArray, List.getElem_cons_succ, List.getElem_cons_zero]
     intro K HK
     go_wp2_with fail
     refine HK.out _ _ (fun h => absurd rfl h) ?_
     clear HK
     refine but_done (by kernel_rfl) ?_
     have B5' : Below W4.heap.size W4 Voa2 := hSoa2
     have hz5 := B5'.size
     have hb5 := bstep HB.out B5'
     have HO := Lib.hid (only_two Voa2 (w.heap.size + 2) 0 1 (.slice A5 (setL lo i [lo[i]] (i + 1)).length c5) (.slice B5 (setL ts i [PN] (i + 1)).length d5))
     have TV8 := Lib.hid ((TV.out.keep (w' := (Voa2.setCell ⟨w.heap.size + 2, 0, none⟩ (.slice A5 (setL lo i [lo[i]] (i + 1)).length c5)).setCell ⟨w.heap.size + 2, 1, none⟩ (.slice B5 (setL ts i [PN] (i + 1)).length d5)) (fun b hb hl => HO.out.block b hl (fun e => by rcases hb with hb | hb; (have := hb.2; omega); omega))).mono (T := fun b => S b ∨ w.heap.size ≤ b) (fun b hb => by rcases hb with hb | hb; (exact .inl hb.1); exact .inr (by omega)))
     have HB8 := Lib.hid (hb5.trans (HO.out.below hb5.size (fun b hb => by omega)))
     clear B5' hb5 HO TV
     go_wp2_with fail
     refine bodyPost_ret (v := .agg #[.slice A5 (setL lo i [lo[i]] (i + 1)).length c5, .slice B5 (setL ts i [PN] (i + 1)).length d5]) (by simp [results, Tryz.results37, go_sem, *]) rfl ?_
     rw [HMID.out]
     exact ⟨_, _, rfl, TV8.out, HB8.out⟩
   ·have z0 : decide (0 < i) = false := decide_eq_false hi0
    rw [if_neg (fun h => hi0 h.1)] at hmd
    have HMID := Lib.hid hmd
    clear hmd
    go_upto_region 7 with (fail)
    refine but_begin (f := 13) (S := fun V => Below W3.heap.size W3 V) (by kernel_rfl) ?_
    have hS0ob : Below W3.heap.size W3 W3.drew := Below.drew1 _
    generalize W3.drew = Udob at *
    refine but_take (f := 13) (i := 0) (v := ?vob0) rfl (by kernel_rfl) (by kernel_rfl) (by kernel_rfl) (by kernel_rfl) (by kernel_rfl) (fun _ _ _ h => h) (Or.inl ⟨(by rfl), ?hyob0⟩) hS0ob ?restob0
    case hyob0 =>
     intro W hW
     obtain ⟨x0, x1, x2⟩ := box2 (box_on QT.out hW)
     go_simp
     exact rfl
    simp only [List.getElem_toArray, List.getElem_cons_succ, List.getElem_cons_zero, Act.put, List.setIfInBounds_toArray, List.set_cons_zero, List.set_cons_succ]
    refine but_take (f := 13) (i := 1) (v := ?vob1) rfl (by kernel_rfl) (by kernel_rfl) (by kernel_rfl) (by kernel_rfl) (by kernel_rfl) (fun _ _ _ h => h) (Or.inl ⟨(by rfl), ?hyob1⟩) hS0ob ?restob1
    case hyob1 =>
     intro W hW
     go_simp
     exact rfl
    simp only [List.getElem_toArray, List.getElem_cons_succ, List.getElem_cons_zero, Act.put, List.setIfInBounds_toArray, List.set_cons_zero, List.set_cons_succ]
    refine but_take (f := 13) (i := 2) (v := ?vob2) rfl (by kernel_rfl) (by kernel_rfl) (by kernel_rfl) (by kernel_rfl) (by kernel_rfl) (fun _ _ _ h => h) (Or.inl ⟨(by rfl), ?hyob2⟩) hS0ob ?restob2
    case hyob2 =>
     intro W hW
     go_simp
     exact rfl
    simp only [List.getElem_toArray, List.getElem_cons_succ, List.getElem_cons_zero, Act.put, List.setIfInBounds_toArray, List.set_cons_zero, List.set_cons_succ]
    refine but_take (f := 13) (i := 3) (v := ?vob3) rfl (by kernel_rfl) (by kernel_rfl) (by kernel_rfl) (by kernel_rfl) (by kernel_rfl) (fun _ _ _ h => h) (Or.inl ⟨(by rfl), ?hyob3⟩) hS0ob ?restob3
    case hyob3 =>
     intro W hW
     go_simp
     exact rfl
    simp only [List.getElem_toArray, List.getElem_cons_succ, List.getElem_cons_zero, Act.put, List.setIfInBounds_toArray, List.set_cons_zero, List.set_cons_succ]
    refine but_take (f := 13) (i := 4) (v := ?vob4) rfl (by kernel_rfl) (by kernel_rfl) (by kernel_rfl) (by kernel_rfl) (by kernel_rfl) (fun _ _ _ h => h) (Or.inl ⟨(by rfl), ?hyob4⟩) hS0ob ?restob4
    case hyob4 =>
     intro W hW
     go_simp
     exact rfl
    simp only [List.getElem_toArray, List.getElem_cons_succ, List.getElem_cons_zero, Act.put, List.setIfInBounds_toArray, List.set_cons_zero, List.set_cons_succ]
    refine but_take (f := 13) (i := 5) (v := ?vob5) rfl (by kernel_rfl) (by kernel_rfl) (by kernel_rfl) (by kernel_rfl) (by kernel_rfl) (fun _ _ _ h => h) (Or.inl ⟨(by rfl), ?hyob5⟩) hS0ob ?restob5
    case hyob5 =>
     intro W hW
     obtain ⟨x0, x1, x2⟩ := box2 (box_on QT.out hW)
     go_simp
     exact rfl
    simp only [List.getElem_toArray, List.getElem_cons_succ, List.getElem_cons_zero, Act.put, List.setIfInBounds_toArray, List.set_cons_zero, List.set_cons_succ]
    refine but_take (f := 13) (i := 6) (v := ?vob6) rfl (by kernel_rfl) (by kernel_rfl) (by kernel_rfl) (by kernel_rfl) (by kernel_rfl) (fun _ _ _ h => h) (Or.inl ⟨(by rfl), ?hyob6⟩) hS0ob ?restob6
    case hyob6 =>
     intro W hW
     go_simp
     exact rfl
    simp only [List.getElem_toArray, List.getElem_cons_succ, List.getElem_cons_zero, Act.put, List.setIfInBounds_toArray, List.set_cons_zero, List.set_cons_succ]
    refine but_take (f := 13) (i := 7) (v := ?vob7) rfl (by kernel_rfl) (by kernel_rfl) (by kernel_rfl) (by kernel_rfl) (by kernel_rfl) (fun _ _ _ h => h) (Or.inl ⟨(by rfl), ?hyob7⟩) hS0ob ?restob7
    case hyob7 =>
     intro W hW
     go_simp
     exact rfl
    simp only [List.getElem_toArray, List.getElem_cons_succ, List.getElem_cons_zero, Act.put, List.setIfInBounds_toArray, List.set_cons_zero, List.set_cons_succ]
    refine but_take (f := 13) (i := 8) (v := ?vob8) rfl (by kernel_rfl) (by kernel_rfl) (by kernel_rfl) (by kernel_rfl) (by kernel_rfl) (fun _ _ _ h => h) (Or.inl ⟨(by rfl), ?hyob8⟩) hS0ob ?restob8
    case hyob8 =>
     intro W hW
     have e3 := (hW.cell (p := ⟨gl, offl + i, none⟩) hbl).trans E3.out
     go_simp
     exact rfl
    simp only [List.getElem_toArray, List.getElem_cons_succ, List.getElem_cons_zero, Act.put, List.setIfInBounds_toArray, List.set_cons_zero, List.set_cons_succ]
    refine but_take (f := 13) (i := 9) (v := ?vob9) rfl (by kernel_rfl) (by kernel_rfl) (by kernel_rfl) (by kernel_rfl) (by kernel_rfl) (fun _ _ _ h => h) (Or.inl ⟨(by rfl), ?hyob9⟩) hS0ob ?restob9
    case hyob9 =>
     intro W hW
     obtain ⟨n0, n1⟩ := box1N (box_on QN.out hW)
     go_simp
     exact rfl
    simp only [List.getElem_toArray, List.getElem_cons_succ, List.getElem_cons_zero, Act.put, List.setIfInBounds_toArray, List.set_cons_zero, List.set_cons_succ]
    refine but_take (f := 13) (i := 10) (v := ?vob10) rfl (by kernel_rfl) (by kernel_rfl) (by kernel_rfl) (by kernel_rfl) (by kernel_rfl) (fun _ _ _ h => h) (Or.inl ⟨(by rfl), ?hyob10⟩) hS0ob ?restob10
    case hyob10 =>
     intro W hW
     go_simp
     exact rfl
    simp only [List.getElem_toArray, List.getElem_cons_succ, List.getElem_cons_zero, Act.put, List.setIfInBounds_toArray, List.set_cons_zero, List.set_cons_succ]
    refine but_run (i := 11) (by kernel_rfl) rfl (by rfl) ?_
    simp only [List.getElem_toArray, List.getElem_cons_succ, List.getElem_cons_zero]
    intro K HK
    go_wp2_with fail
    have hSob1 : (fun V => Below W3.heap.size W3 V) (Udob.alloc (.cells #[.int .i64 lo[i], .slice Ax PN.length cx] 99)) := bstep hS0ob (bal1 _ _)
    refine HK.out _ _ (fun _ => hSob1) ?_
    clear HK
    have AX := Lib.hid (At.lit2 Udob (.int .i64 lo[i]) (.slice Ax PN.length cx) 99)
    replace OX := Lib.hid (OX.out.on (bstep hS0ob (bal1 Udob (.cells #[.int .i64 lo[i], .slice Ax PN.length cx] 99))))
    replace HT := Lib.hid (HT.out.on (bstep hS0ob (bal1 Udob (.cells #[.int .i64 lo[i], .slice Ax PN.length cx] 99))))
    generalize Udob.alloc (.cells #[.int .i64 lo[i], .slice Ax PN.length cx] 99) = Vnob1 at *
    refine but_run (i := 12) (by kernel_rfl) rfl (by rfl) ?_
    simp only [List.getElem_toArray, List.getElem_cons_succ, List.getElem_cons_zero]
    intro K HK
    have hrep := replaceNodes_any _ _ lo ts i (i + 1) _ 1 [lo[i]] [PN] [.slice Ax PN.length cx] (fun b => S b ∧ b < w.heap.size) (fun b => w.heap.size + 3 ≤ b) _ HT.out (show At _ _ (brX ([lo[i]].zip [.slice Ax PN.length cx])) from AX.out) rfl rfl (by simp) (OwnsL.one (OX.out.mono (fun b hb => by have := hb.1; omega))) (fun b hb hb' => by have := hb.2; omega) (by omega) (by omega) HLEN.out (by omega) (by omega) (by simp)
    go_wp2_with fail
    refine (hrep).mono ?_
    rintro r Vob2 ⟨vl2, vn2, rfl, tv2, hbob2⟩
    clear hrep
    obtain ⟨A5, c5, B5, d5, rfl, rfl⟩ := tv2.reads.shape
    go_wp2_with fail
    have hSob2 : (fun V => Below W3.heap.size W3 V) Vob2 := bstep hSob1 hbob2
    refine HK.out _ _ (fun _ => hSob2) ?_
    clear HK
    have hzc := (hSob1).size
    have TV := Lib.hid (tv2.mono (T := fun b => (S b ∧ b < w.heap.size) ∨ w.heap.size + 3 ≤ b) (fun b hb => by rcases hb with hb | hb | hb; (exact .inl hb); all_goals exact .inr (by omega)))
    clear tv2 AX
    obtain ⟨y0, y1, y2⟩ := box2 (box_on QR.out hSob2)
    refine but_run (i := 13) (by kernel_rfl) rfl (by rfl) ?_
    simp only [List.getElem_toArray, List.getElem_cons_succ, List.getElem_cons_zero]
    intro K HK
    go_wp2_with fail
    refine HK.out _ _ (fun h => absurd rfl h) ?_
    clear HK
    refine but_done (by kernel_rfl) ?_
    have B5' : Below W3.heap.size W3 Vob2 := hSob2
    have hz5 := B5'.size
    have hb5 := bstep HB.out B5'
    have HO := Lib.hid (only_two Vob2 (w.heap.size + 2) 0 1 (.slice A5 (setL lo i [lo[i]] (i + 1)).length c5) (.slice B5 (setL ts i [PN] (i + 1)).length d5))
    have TV8 := Lib.hid ((TV.out.keep (w' := (Vob2.setCell ⟨w.heap.size + 2, 0, none⟩ (.slice A5 (setL lo i [lo[i]] (i + 1)).length c5)).setCell ⟨w.heap.size + 2, 1, none⟩ (.slice B5 (setL ts i [PN] (i + 1)).length d5)) (fun b hb hl => HO.out.block b hl (fun e => by rcases hb with hb | hb; (have := hb.2; omega); omega))).mono (T := fun b => S b ∨ w.heap.size ≤ b) (fun b hb => by rcases hb with hb | hb; (exact .inl hb.1); exact .inr (by omega)))
    have HB8 := Lib.hid (hb5.trans (HO.out.below hb5.size (fun b hb => by omega)))
    clear B5' hb5 HO TV
    go_wp2_with fail
    refine bodyPost_ret (v := .agg #[.slice A5 (setL lo i [lo[i]] (i + 1)).length c5, .slice B5 (setL ts i [PN] (i + 1)).length d5]) (by simp [results, Tryz.results37, go_sem, *]) rfl ?_
    rw [HMID.out]
    exact ⟨_, _, rfl, TV8.out, HB8.out⟩
end Go.Proofs.YthopkhpiikiknaaGreat
namespace Go.Proofs.YthopkhpiikiknaaGreat
open Go.RowKit
set_option maxRecDepth 100000
set_option linter.unusedSimpArgs false
set_option linter.unusedVariables false

/-- A tree of the call's own, whose rows may be cut, and a bool. -/
def PutsC (w : World) (t : TreeD) (b : Bool) (e : Ending) (w' : World) : Prop := ∃ vl vn, e = .returned (.tuple #[.agg #[vl, vn], .bool b]) ∧ TreeC w' (fun b => w.heap.size ≤ b) vl vn t.1 t.2 ∧ Below w.heap.size w w'
theorem new_len1 (l : List KeyD) : (nodeNewK l).length ≤ 1 := by
 unfold nodeNewK
 split <;> simp
theorem mid_small {lo : List Int} {ts : List NodeD} {x : KeyD} (htp : TreeP lo ts) (hx : okK x = true) : (midK lo ts x).1.length = (midK lo ts x).2.length ∧ (midK lo ts x).2.length ≤ 1000 ∧ sumT (midK lo ts x).2 ≤ 10000 := by
 have hsm := treeP_small' htp
 have hlen : lo.length = ts.length := htp.2.2.1
 have hts1 := htp.1
 have hsp := spot_ok hx
 have hwg : 0 ≤ whereK lo (spotI x.a x.b) := where_ge (by omega) (by rw [htp.2.2.2.1]; omega)
 have hwl := whereK_le lo (spotI x.a x.b)
 obtain ⟨i, hwi⟩ : ∃ i : Nat, whereK lo (spotI x.a x.b) = (i : Int) := ⟨(whereK lo (spotI x.a x.b)).toNat, by omega⟩
 have hi : i < lo.length := by omega
 have hit : i < ts.length := by omega
 have hns := ok_small (fit_at htp hit).1
 have hps := putN_small (k := x) (m := 8) (ns := ts[i]) (by omega) (by omega)
 have hrl := reb_len ts[i] x
 rw [mid_eq hwi hit hi]
 split
 ·have h1 := new_len1 ((rebK ts[i] x).take (halfK (rebK ts[i] x)))
  have h2 := new_len1 ((rebK ts[i] x).drop (halfK (rebK ts[i] x)))
  have h3 := sum_new ((rebK ts[i] x).take (halfK (rebK ts[i] x)))
  have h4 := sum_new ((rebK ts[i] x).drop (halfK (rebK ts[i] x)))
  have h9 := sumT_setL ts (show i ≤ i + 1 by omega) [nodeNewK ((rebK ts[i] x).take (halfK (rebK ts[i] x))), nodeNewK ((rebK ts[i] x).drop (halfK (rebK ts[i] x)))]
  simp only [sumT_cons, sumT_nil] at h9
  rw [List.length_take] at h3
  rw [List.length_drop] at h4
  dsimp only
  rw [setL_len _ _ _ _ (by omega) (by omega), setL_len _ _ _ _ (by omega) (by omega)]
  simp only [List.length_cons, List.length_nil]
  refine ⟨by omega, by omega, by omega⟩
 ·split
  ·have h9 := sumT_setL ts (show i ≤ i + 1 by omega) []
   simp only [sumT_nil] at h9
   dsimp only
   rw [setL_len _ _ _ _ (by omega) (by omega), setL_len _ _ _ _ (by omega) (by omega)]
   simp only [List.length_nil]
   refine ⟨by omega, by omega, by omega⟩
  ·have h9 := sumT_setL ts (show i ≤ i + 1 by omega) [putN ts[i] x]
   simp only [sumT_cons, sumT_nil] at h9
   dsimp only
   rw [setL_len _ _ _ _ (by omega) (by omega), setL_len _ _ _ _ (by omega) (by omega)]
   simp only [List.length_cons, List.length_nil]
   refine ⟨by omega, by omega, by omega⟩
set_option maxHeartbeats 16000000 in
theorem implTreePut_any (vl vn : Value) (lo : List Int) (ts : List NodeD) (x : KeyD) (w : World) (hv : RdT w w.heap.size vl vn lo ts) (hm : lo.length ≤ 1048576) (hn : ts.length ≤ 1048576) (hs : sumT ts ≤ 1048576) :
  Calls Tryz.prog 7 #[.agg #[vl, vn], x.v] w (PutsC w (treePutK lo ts x) (treePutB lo ts x)) := by
 obtain ⟨A, c, B, d, rfl, rfl⟩ := hv.shape
 have hb3 := bal3 w (.cells #[.slice A lo.length c, .slice B ts.length d] 27) (.cells #[.int .i64 x.a, .int .i64 x.b, .int .i64 x.c, .int .i64 x.d, .int .i64 x.e] 29) (.cells #[.slice none 0 0, .slice none 0 0] 27)
 obtain ⟨q0, q1, q2⟩ := al3 w (.cells #[.slice A lo.length c, .slice B ts.length d] 27) (.cells #[.int .i64 x.a, .int .i64 x.b, .int .i64 x.c, .int .i64 x.d, .int .i64 x.e] 29) (.cells #[.slice none 0 0, .slice none 0 0] 27)
 have hz3 : (((w.alloc (.cells #[.slice A lo.length c, .slice B ts.length d] 27)).alloc (.cells #[.int .i64 x.a, .int .i64 x.b, .int .i64 x.c, .int .i64 x.d, .int .i64 x.e] 29)).alloc (.cells #[.slice none 0 0, .slice none 0 0] 27)).heap.size = w.heap.size + 3 := by simp
 obtain ⟨RT, hRT⟩ : ∃ RT, treePutK lo ts x = RT := ⟨_, rfl⟩
 obtain ⟨RB, hRB⟩ : ∃ RB, treePutB lo ts x = RB := ⟨_, rfl⟩
 have HPT : Hid (RT = if RB then endK lo ts x else (lo, ts)) := Lib.hid (by rw [← hRT, ← hRB, treePutK])
 have HPB : Hid (RB = (treeOkB lo ts && okK x && treeOkB (endK lo ts x).1 (endK lo ts x).2)) := Lib.hid (by rw [← hRB]; rfl)
 rw [hRT, hRB]
 have HKO := Lib.hid implKeyOk_any
 unfold keyV at HKO
 have HSM : Hid (SmallT lo ts) := Lib.hid ⟨by omega, by omega, by omega⟩
 have HV := Lib.hid (hv.on hb3)
 have HB := Lib.hid hb3
 have QT := Lib.hid q0
 have QK := Lib.hid q1
 have QR := Lib.hid q2
 have HZ := Lib.hid hz3
 have HPK0 := Lib.hid (fun vl vn S V hv htp hx hs => putKey_any vl vn lo ts x S V hv htp hx hs)
 unfold KeyD.v keyV at HPK0
 unfold KeyD.v keyV
 clear hv hb3 q0 q1 q2 hz3 hRT hRB
 go_enter Tryz.func7, Tryz.ntmps7
 go_upto_region 1 with (fail)
 generalize ((w.alloc (.cells #[.slice A lo.length c, .slice B ts.length d] 27)).alloc (.cells #[.int .i64 x.a, .int .i64 x.b, .int .i64 x.c, .int .i64 x.d, .int .i64 x.e] 29)).alloc (.cells #[.slice none 0 0, .slice none 0 0] 27) = W at *
 have hzW := Nat.le_of_eq HZ.out.symm
 obtain ⟨x0, x1, x2⟩ := box2 QT.out
 obtain ⟨k0, k1, k2, k3, k4, k5⟩ := box5 QK.out
 go_wp2_with fail
 refine (implTreeOk_any _ _ lo ts _ HV.out (by omega) (by omega) (by omega)).mono ?_
 rintro e W1 ⟨rfl, b1⟩
 replace HV := Lib.hid (HV.out.on b1)
 replace HB := Lib.hid (bstep HB.out b1)
 replace QT := Lib.hid (box_on QT.out b1)
 replace QK := Lib.hid (box_on QK.out b1)
 replace QR := Lib.hid (box_on QR.out b1)
 have hz1 := b1.size
 clear b1 x0 x1 x2 k0 k1 k2 k3 k4 k5 HZ
 cases hok : treeOkB lo ts
 ·have HRB : Hid (RB = false) := Lib.hid (by rw [HPB.out, hok]; rfl)
  have HRT : Hid (RT = (lo, ts)) := Lib.hid (by rw [HPT.out, HRB.out]; rfl)
  clear hok HPK0
  obtain ⟨x0, x1, x2⟩ := box2 QT.out
  obtain ⟨y0, y1, y2⟩ := box2 QR.out
  go_wp2_with fail
  refine (copyTree_any _ _ lo ts _ HV.out HSM.out).mono ?_
  rintro e W9 ⟨vl9, vn9, rfl, o9, b9⟩
  obtain ⟨A9, c9, B9, d9, rfl, rfl⟩ := o9.reads.shape
  have HO := Lib.hid (only_two W9 (w.heap.size + 2) 0 1 (.slice A9 lo.length c9) (.slice B9 ts.length d9))
  have hz9 := b9.size
  have T9 := Lib.hid ((o9.c.keep (w' := (W9.setCell ⟨w.heap.size + 2, 0, none⟩ (.slice A9 lo.length c9)).setCell ⟨w.heap.size + 2, 1, none⟩ (.slice B9 ts.length d9)) (fun b hb hl => HO.out.block b hl (fun e => by omega))).mono (T := fun b => w.heap.size ≤ b) (fun b hb => by omega))
  have hbb := bstep HB.out b9
  have HB9 := Lib.hid (hbb.trans (HO.out.below hbb.size (fun b hb => by omega)))
  obtain ⟨z0, z1, z2⟩ := box2 (box_on QR.out b9)
  clear x0 x1 x2 y0 y1 y2 o9 hbb HO b9
  go_wp2
  refine bodyPost_ret (v := .tuple #[.agg #[.slice A9 lo.length c9, .slice B9 ts.length d9], .bool false]) (by simp [results, Tryz.results7, go_sem, *]) rfl ?_
  rw [HRB.out, HRT.out]
  exact ⟨_, _, rfl, T9.out, HB9.out⟩
 ·have htp : TreeP lo ts := of_decide_eq_true hok
  have HTP := Lib.hid htp
  obtain ⟨k0, k1, k2, k3, k4, k5⟩ := box5 QK.out
  go_wp2_with fail
  refine (HKO.out x.a x.b x.c x.d x.e _).mono ?_
  rintro e W2 ⟨rfl, b2⟩
  replace HV := Lib.hid (HV.out.on b2)
  replace HB := Lib.hid (bstep HB.out b2)
  replace QT := Lib.hid (box_on QT.out b2)
  replace QK := Lib.hid (box_on QK.out b2)
  replace QR := Lib.hid (box_on QR.out b2)
  have hz2 := b2.size
  have hkk : keyOkB x.a x.b x.c x.d x.e = okK x := rfl
  rw [hkk]
  clear b2 k0 k1 k2 k3 k4 k5 hkk
  cases hkx : okK x
  ·have HRB : Hid (RB = false) := Lib.hid (by rw [HPB.out, hkx]; simp)
   have HRT : Hid (RT = (lo, ts)) := Lib.hid (by rw [HPT.out, HRB.out]; rfl)
   clear hok hkx HPK0 htp
   obtain ⟨x0, x1, x2⟩ := box2 QT.out
   obtain ⟨y0, y1, y2⟩ := box2 QR.out
   go_wp2_with fail
   refine (copyTree_any _ _ lo ts _ HV.out HSM.out).mono ?_
   rintro e W9 ⟨vl9, vn9, rfl, o9, b9⟩
   obtain ⟨A9, c9, B9, d9, rfl, rfl⟩ := o9.reads.shape
   have HO := Lib.hid (only_two W9 (w.heap.size + 2) 0 1 (.slice A9 lo.length c9) (.slice B9 ts.length d9))
   have hz9 := b9.size
   have T9 := Lib.hid ((o9.c.keep (w' := (W9.setCell ⟨w.heap.size + 2, 0, none⟩ (.slice A9 lo.length c9)).setCell ⟨w.heap.size + 2, 1, none⟩ (.slice B9 ts.length d9)) (fun b hb hl => HO.out.block b hl (fun e => by omega))).mono (T := fun b => w.heap.size ≤ b) (fun b hb => by omega))
   have hbb := bstep HB.out b9
   have HB9 := Lib.hid (hbb.trans (HO.out.below hbb.size (fun b hb => by omega)))
   obtain ⟨z0, z1, z2⟩ := box2 (box_on QR.out b9)
   clear x0 x1 x2 y0 y1 y2 o9 hbb HO b9
   go_wp2
   refine bodyPost_ret (v := .tuple #[.agg #[.slice A9 lo.length c9, .slice B9 ts.length d9], .bool false]) (by simp [results, Tryz.results7, go_sem, *]) rfl ?_
   rw [HRB.out, HRT.out]
   exact ⟨_, _, rfl, T9.out, HB9.out⟩
  ·have hms := mid_small htp hkx
   have HPK := Lib.hid (fun vl vn S V hv => HPK0.out vl vn S V hv htp hkx hs)
   obtain ⟨m1, hm1⟩ : ∃ m, (midK lo ts x).1 = m := ⟨_, rfl⟩
   obtain ⟨m2, hm2⟩ : ∃ m, (midK lo ts x).2 = m := ⟨_, rfl⟩
   have hjm : joinK (m1, m2) = endK lo ts x := by rw [endK, ← hm1, ← hm2]
   rw [hm1, hm2] at hms
   have hji := join_inv m2.length (m1, m2) hms.1
   obtain ⟨r1, hr1⟩ : ∃ r, (joinK (m1, m2)).1 = r := ⟨_, rfl⟩
   obtain ⟨r2, hr2⟩ : ∃ r, (joinK (m1, m2)).2 = r := ⟨_, rfl⟩
   have hji2 : r1.length = r2.length ∧ r2.length ≤ m2.length ∧ sumT r2 ≤ sumT m2 := by rw [← hr1, ← hr2]; exact hji
   have HEND : Hid (endK lo ts x = (r1, r2)) := Lib.hid (by rw [← hjm, ← hr1, ← hr2])
   have HRB0 : Hid (RB = treeOkB r1 r2) := Lib.hid (by rw [HPB.out, hok, hkx, HEND.out]; simp)
   have HM1 := Lib.hid hm1
   have HM2 := Lib.hid hm2
   have HE1 := Lib.hid hr1
   have HE2 := Lib.hid hr2
   have HML := Lib.hid hms.1
   have hmA := hms.2.1
   have hmB := hms.2.2
   have hrA : r2.length ≤ 1000 := by omega
   have hrB : sumT r2 ≤ 10000 := by omega
   have hrC : r1.length ≤ 1000 := by omega
   have hsB : m1.length ≤ 1000 := by omega
   clear hok hkx htp HPK0 hms hm1 hm2 hjm hji hr1 hr2 hji2
   go_upto_region 3 with (fail)
   go_cut [6] (fun s6 wx => ∃ (pb : Nat) (A4 : Option Addr) (c4 : Nat) (B4 : Option Addr) (d4 : Nat), s6 = .pointer (some ⟨pb, 0, none⟩) ∧ W2.heap.size ≤ pb ∧ Hid (wx.heap[pb]? = some (.cells #[.slice A4 r1.length c4, .slice B4 r2.length d4] 27 (0, 0))) ∧ Hid (TreeC wx (fun b => W2.heap.size ≤ b ∧ b ≠ pb) (.slice A4 r1.length c4) (.slice B4 r2.length d4) r1 r2) ∧ Hid (Below W2.heap.size W2 wx))
   case first =>
    refine but_begin (f := 6) (S := fun V => Below W2.heap.size W2 V) (by kernel_rfl) ?_
    have hS0u : Below W2.heap.size W2 W2.drew := Below.drew1 _
    generalize W2.drew = Udu at *
    refine but_take (f := 6) (i := 0) (v := ?vu0) rfl (by kernel_rfl) (by kernel_rfl) (by kernel_rfl) (by kernel_rfl) (by kernel_rfl) (fun _ _ _ h => h) (Or.inl ⟨(by rfl), ?hyu0⟩) hS0u ?restu0
    case hyu0 =>
     intro W hW
     obtain ⟨x0, x1, x2⟩ := box2 (box_on QT.out hW)
     go_simp
     exact rfl
    simp only [List.getElem_toArray, List.getElem_cons_succ, List.getElem_cons_zero, Act.put, List.setIfInBounds_toArray, List.set_cons_zero, List.set_cons_succ]
    refine but_take (f := 6) (i := 2) (v := ?vu2) rfl (by kernel_rfl) (by kernel_rfl) (by kernel_rfl) (by kernel_rfl) (by kernel_rfl) (fun _ _ _ h => h) (Or.inl ⟨(by rfl), ?hyu2⟩) hS0u ?restu2
    case hyu2 =>
     intro W hW
     obtain ⟨k0, k1, k2, k3, k4, k5⟩ := box5 (box_on QK.out hW)
     go_simp
     exact rfl
    simp only [List.getElem_toArray, List.getElem_cons_succ, List.getElem_cons_zero, Act.put, List.setIfInBounds_toArray, List.set_cons_zero, List.set_cons_succ]
    refine but_two (i := 1) (j := 5) (by kernel_rfl) rfl rfl (by rfl) (by rfl) ?_ ?_
    ·simp only [List.getElem_toArray, List.getElem_cons_succ, List.getElem_cons_zero]
     intro K HK
     go_wp2_with fail
     refine (copyTree_any _ _ lo ts _ (HV.out.on hS0u) HSM.out).mono ?_
     rintro r Vup1 ⟨vl1, vn1, rfl, o1, hbup1⟩
     obtain ⟨A1, c1, B1, d1, rfl, rfl⟩ := o1.reads.shape
     go_wp2_with fail
     have hSup1 : (fun V => Below W2.heap.size W2 V) Vup1 := bstep hS0u hbup1
     refine HK.out _ _ (fun _ => hSup1) ?_
     clear HK
     have O1 := Lib.hid ((o1.c.lt).mono (T := fun b => W2.heap.size ≤ b) (fun b hb => Nat.le_trans (hS0u).size hb.1))
     clear o1
     refine but_two (i := 3) (j := 5) (by kernel_rfl) rfl rfl (by rfl) (by rfl) ?_ ?_
     ·simp only [List.getElem_toArray, List.getElem_cons_succ, List.getElem_cons_zero]
      intro K HK
      go_wp2_with fail
      refine (HPK.out _ _ _ _ O1.out).mono ?_
      rintro r Vupp2 ⟨vl3, vn3, rfl, o3, hbupp2⟩
      rw [HM1.out, HM2.out] at o3
      obtain ⟨A3, c3, B3, d3, rfl, rfl⟩ := o3.reads.shape
      go_wp2_with fail
      have hSupp2 : (fun V => Below W2.heap.size W2 V) Vupp2 := bstep hSup1 hbupp2
      refine HK.out _ _ (fun _ => hSupp2) ?_
      clear HK
      have O3 := Lib.hid ((o3.lt).mono (T := fun b => W2.heap.size ≤ b) (fun b hb => by rcases hb.1 with h | h; (exact h); exact (by have := (hSup1).size; omega)))
      clear o3 O1
      refine but_two (i := 4) (j := 5) (by kernel_rfl) rfl rfl (by rfl) (by rfl) ?_ ?_
      ·simp only [List.getElem_toArray, List.getElem_cons_succ, List.getElem_cons_zero]
       intro K HK
       go_wp2_with fail
       refine (joinNodes_any _ _ m1 m2 _ _ O3.out HML.out (by omega) (by omega)).mono ?_
       rintro r Vuppp3 ⟨vl4, vn4, rfl, o4, hbuppp3⟩
       rw [HE1.out, HE2.out] at o4
       obtain ⟨A4, c4, B4, d4, rfl, rfl⟩ := o4.reads.shape
       go_wp2_with fail
       have hSuppp3 : (fun V => Below W2.heap.size W2 V) Vuppp3 := bstep hSupp2 hbuppp3
       refine HK.out _ _ (fun _ => hSuppp3) ?_
       clear HK
       have O4 := Lib.hid ((o4.lt).mono (T := fun b => W2.heap.size ≤ b) (fun b hb => by rcases hb.1 with h | h; (exact h); exact (by have := (hSupp2).size; omega)))
       have hl4 : Hid (Vuppp3.heap.size ≤ Vuppp3.heap.size) := Lib.hid (Nat.le_refl _)
       clear o4 O3 hl4
       refine but_run (i := 5) (by kernel_rfl) rfl (by rfl) ?_
       simp only [List.getElem_toArray, List.getElem_cons_succ, List.getElem_cons_zero]
       intro K HK
       go_wp2_with fail
       have hSuppp4 : (fun V => Below W2.heap.size W2 V) (Vuppp3.alloc (.cells #[.slice none 0 0, .slice none 0 0] 27)) := bstep hSuppp3 (bal1 _ _)
       refine HK.out _ _ (fun _ => hSuppp4) ?_
       clear HK
       have QB := Lib.hid (al1 Vuppp3 (.cells #[.slice none 0 0, .slice none 0 0] 27))
       obtain ⟨pb, hpb⟩ : ∃ p, Vuppp3.heap.size = p := ⟨_, rfl⟩
       have hpb2 : W2.heap.size ≤ pb := by rw [← hpb]; exact (hSuppp3).size
       have hpl : pb < (Vuppp3.alloc (.cells #[.slice none 0 0, .slice none 0 0] 27)).heap.size := by rw [← hpb]; simp
       replace O4 := Lib.hid ((O4.out.lt.on (bal1 Vuppp3 (.cells #[.slice none 0 0, .slice none 0 0] 27))).mono (T := fun b => W2.heap.size ≤ b ∧ b ≠ pb) (fun b hb => ⟨hb.1, by have := hb.2; omega⟩))
       rw [hpb] at QB ⊢
       clear hpb
       generalize Vuppp3.alloc (.cells #[.slice none 0 0, .slice none 0 0] 27) = Vnuppp4 at *
       obtain ⟨y0, y1, y2⟩ := box2 QB.out
       refine but_run (i := 6) (by kernel_rfl) rfl (by rfl) ?_
       simp only [List.getElem_toArray, List.getElem_cons_succ, List.getElem_cons_zero]
       intro K HK
       go_wp2_with fail
       refine HK.out _ _ (fun h => absurd rfl h) ?_
       clear HK
       refine but_done (by kernel_rfl) ?_
       have HO := only_two Vnuppp4 pb 0 1 (.slice A4 r1.length c4) (.slice B4 r2.length d4)
       have q8 := box_set (i := 1) (u := .slice B4 r2.length d4) (box_set (i := 0) (u := .slice A4 r1.length c4) QB.out)
       have hb8 : Below W2.heap.size W2 Vnuppp4 := hSuppp4
       have t8 := O4.out.keep (w' := (Vnuppp4.setCell ⟨pb, 0, none⟩ (.slice A4 r1.length c4)).setCell ⟨pb, 1, none⟩ (.slice B4 r2.length d4)) (fun b hb hl => HO.block b hl (fun e => hb.2 e))
       have X8 := Lib.hid (show _ from q8)
       have Y8 := Lib.hid t8
       have Z8 := Lib.hid (hb8.trans (HO.below hb8.size (fun b hb => by have : b = pb := hb; omega)))
       clear HO q8 hb8 t8
       go_wp2_with fail
       go_meet
       exact ⟨pb, A4, c4, B4, d4, rfl, hpb2, X8, Y8, Z8⟩
      ·simp only [List.getElem_toArray, List.getElem_cons_succ, List.getElem_cons_zero]
       intro K HK
       go_wp2_with fail
       have hSuppq3 : (fun V => Below W2.heap.size W2 V) (Vupp2.alloc (.cells #[.slice none 0 0, .slice none 0 0] 27)) := bstep hSupp2 (bal1 _ _)
       refine HK.out _ _ (fun _ => hSuppq3) ?_
       clear HK
       have QB := Lib.hid (al1 Vupp2 (.cells #[.slice none 0 0, .slice none 0 0] 27))
       obtain ⟨pb, hpb⟩ : ∃ p, Vupp2.heap.size = p := ⟨_, rfl⟩
       have hpb2 : W2.heap.size ≤ pb := by rw [← hpb]; exact (hSupp2).size
       have hpl : pb < (Vupp2.alloc (.cells #[.slice none 0 0, .slice none 0 0] 27)).heap.size := by rw [← hpb]; simp
       replace O3 := Lib.hid ((O3.out.lt.on (bal1 Vupp2 (.cells #[.slice none 0 0, .slice none 0 0] 27))).mono (T := fun b => W2.heap.size ≤ b ∧ b ≠ pb) (fun b hb => ⟨hb.1, by have := hb.2; omega⟩))
       rw [hpb] at QB ⊢
       clear hpb
       generalize Vupp2.alloc (.cells #[.slice none 0 0, .slice none 0 0] 27) = Vnuppq3 at *
       refine but_run (i := 4) (by kernel_rfl) rfl (by rfl) ?_
       simp only [List.getElem_toArray, List.getElem_cons_succ, List.getElem_cons_zero]
       intro K HK
       go_wp2_with fail
       refine (joinNodes_any _ _ m1 m2 _ _ O3.out HML.out (by omega) (by omega)).mono ?_
       rintro r Vuppq4 ⟨vl4, vn4, rfl, o4, hbuppq4⟩
       rw [HE1.out, HE2.out] at o4
       obtain ⟨A4, c4, B4, d4, rfl, rfl⟩ := o4.reads.shape
       go_wp2_with fail
       have hSuppq4 : (fun V => Below W2.heap.size W2 V) Vuppq4 := bstep hSuppq3 hbuppq4
       refine HK.out _ _ (fun _ => hSuppq4) ?_
       clear HK
       have O4 := Lib.hid ((o4.lt).mono (T := fun b => W2.heap.size ≤ b ∧ b ≠ pb) (fun b hb => by rcases hb.1 with h | h; (exact h); exact ⟨by have := (hSuppq3).size; omega, by have := hpl; omega⟩))
       have hl4 : Hid (Vuppq4.heap.size ≤ Vuppq4.heap.size) := Lib.hid (Nat.le_refl _)
       clear o4 O3 hl4
       replace QB := Lib.hid (box_on QB.out hbuppq4)
       replace hpl : pb < Vuppq4.heap.size := Nat.lt_of_lt_of_le hpl hbuppq4.size
       obtain ⟨y0, y1, y2⟩ := box2 QB.out
       refine but_run (i := 6) (by kernel_rfl) rfl (by rfl) ?_
       simp only [List.getElem_toArray, List.getElem_cons_succ, List.getElem_cons_zero]
       intro K HK
       go_wp2_with fail
       refine HK.out _ _ (fun h => absurd rfl h) ?_
       clear HK
       refine but_done (by kernel_rfl) ?_
       have HO := only_two Vuppq4 pb 0 1 (.slice A4 r1.length c4) (.slice B4 r2.length d4)
       have q8 := box_set (i := 1) (u := .slice B4 r2.length d4) (box_set (i := 0) (u := .slice A4 r1.length c4) QB.out)
       have hb8 : Below W2.heap.size W2 Vuppq4 := hSuppq4
       have t8 := O4.out.keep (w' := (Vuppq4.setCell ⟨pb, 0, none⟩ (.slice A4 r1.length c4)).setCell ⟨pb, 1, none⟩ (.slice B4 r2.length d4)) (fun b hb hl => HO.block b hl (fun e => hb.2 e))
       have X8 := Lib.hid (show _ from q8)
       have Y8 := Lib.hid t8
       have Z8 := Lib.hid (hb8.trans (HO.below hb8.size (fun b hb => by have : b = pb := hb; omega)))
       clear HO q8 hb8 t8
       go_wp2_with fail
       go_meet
       exact ⟨pb, A4, c4, B4, d4, rfl, hpb2, X8, Y8, Z8⟩
     ·simp only [List.getElem_toArray, List.getElem_cons_succ, List.getElem_cons_zero]
      intro K HK
      go_wp2_with fail
      have hSupq2 : (fun V => Below W2.heap.size W2 V) (Vup1.alloc (.cells #[.slice none 0 0, .slice none 0 0] 27)) := bstep hSup1 (bal1 _ _)
      refine HK.out _ _ (fun _ => hSupq2) ?_
      clear HK
      have QB := Lib.hid (al1 Vup1 (.cells #[.slice none 0 0, .slice none 0 0] 27))
      obtain ⟨pb, hpb⟩ : ∃ p, Vup1.heap.size = p := ⟨_, rfl⟩
      have hpb2 : W2.heap.size ≤ pb := by rw [← hpb]; exact (hSup1).size
      have hpl : pb < (Vup1.alloc (.cells #[.slice none 0 0, .slice none 0 0] 27)).heap.size := by rw [← hpb]; simp
      replace O1 := Lib.hid ((O1.out.lt.on (bal1 Vup1 (.cells #[.slice none 0 0, .slice none 0 0] 27))).mono (T := fun b => W2.heap.size ≤ b ∧ b ≠ pb) (fun b hb => ⟨hb.1, by have := hb.2; omega⟩))
      rw [hpb] at QB ⊢
      clear hpb
      generalize Vup1.alloc (.cells #[.slice none 0 0, .slice none 0 0] 27) = Vnupq2 at *
      refine but_run (i := 3) (by kernel_rfl) rfl (by rfl) ?_
      simp only [List.getElem_toArray, List.getElem_cons_succ, List.getElem_cons_zero]
      intro K HK
      go_wp2_with fail
      refine (HPK.out _ _ _ _ O1.out).mono ?_
      rintro r Vupq3 ⟨vl3, vn3, rfl, o3, hbupq3⟩
      rw [HM1.out, HM2.out] at o3
      obtain ⟨A3, c3, B3, d3, rfl, rfl⟩ := o3.reads.shape
      go_wp2_with fail
      have hSupq3 : (fun V => Below W2.heap.size W2 V) Vupq3 := bstep hSupq2 hbupq3
      refine HK.out _ _ (fun _ => hSupq3) ?_
      clear HK
      have O3 := Lib.hid ((o3.lt).mono (T := fun b => W2.heap.size ≤ b ∧ b ≠ pb) (fun b hb => by rcases hb.1 with h | h; (exact h); exact ⟨by have := (hSupq2).size; omega, by have := hpl; omega⟩))
      clear o3 O1
      replace QB := Lib.hid (box_on QB.out hbupq3)
      replace hpl : pb < Vupq3.heap.size := Nat.lt_of_lt_of_le hpl hbupq3.size
      refine but_run (i := 4) (by kernel_rfl) rfl (by rfl) ?_
      simp only [List.getElem_toArray, List.getElem_cons_succ, List.getElem_cons_zero]
      intro K HK
      go_wp2_with fail
      refine (joinNodes_any _ _ m1 m2 _ _ O3.out HML.out (by omega) (by omega)).mono ?_
      rintro r Vupq4 ⟨vl4, vn4, rfl, o4, hbupq4⟩
      rw [HE1.out, HE2.out] at o4
      obtain ⟨A4, c4, B4, d4, rfl, rfl⟩ := o4.reads.shape
      go_wp2_with fail
      have hSupq4 : (fun V => Below W2.heap.size W2 V) Vupq4 := bstep hSupq3 hbupq4
      refine HK.out _ _ (fun _ => hSupq4) ?_
      clear HK
      have O4 := Lib.hid ((o4.lt).mono (T := fun b => W2.heap.size ≤ b ∧ b ≠ pb) (fun b hb => by rcases hb.1 with h | h; (exact h); exact ⟨by have := (hSupq3).size; omega, by have := hpl; omega⟩))
      have hl4 : Hid (Vupq4.heap.size ≤ Vupq4.heap.size) := Lib.hid (Nat.le_refl _)
      clear o4 O3 hl4
      replace QB := Lib.hid (box_on QB.out hbupq4)
      replace hpl : pb < Vupq4.heap.size := Nat.lt_of_lt_of_le hpl hbupq4.size
      obtain ⟨y0, y1, y2⟩ := box2 QB.out
      refine but_run (i := 6) (by kernel_rfl) rfl (by rfl) ?_
      simp only [List.getElem_toArray, List.getElem_cons_succ, List.getElem_cons_zero]
      intro K HK
      go_wp2_with fail
      refine HK.out _ _ (fun h => absurd rfl h) ?_
      clear HK
      refine but_done (by kernel_rfl) ?_
      have HO := only_two Vupq4 pb 0 1 (.slice A4 r1.length c4) (.slice B4 r2.length d4)
      have q8 := box_set (i := 1) (u := .slice B4 r2.length d4) (box_set (i := 0) (u := .slice A4 r1.length c4) QB.out)
      have hb8 : Below W2.heap.size W2 Vupq4 := hSupq4
      have t8 := O4.out.keep (w' := (Vupq4.setCell ⟨pb, 0, none⟩ (.slice A4 r1.length c4)).setCell ⟨pb, 1, none⟩ (.slice B4 r2.length d4)) (fun b hb hl => HO.block b hl (fun e => hb.2 e))
      have X8 := Lib.hid (show _ from q8)
      have Y8 := Lib.hid t8
      have Z8 := Lib.hid (hb8.trans (HO.below hb8.size (fun b hb => by have : b = pb := hb; omega)))
      clear HO q8 hb8 t8
      go_wp2_with fail
      go_meet
      exact ⟨pb, A4, c4, B4, d4, rfl, hpb2, X8, Y8, Z8⟩
    ·simp only [List.getElem_toArray, List.getElem_cons_succ, List.getElem_cons_zero]
     intro K HK
     go_wp2_with fail
     have hSuq1 : (fun V => Below W2.heap.size W2 V) (Udu.alloc (.cells #[.slice none 0 0, .slice none 0 0] 27)) := bstep hS0u (bal1 _ _)
     refine HK.out _ _ (fun _ => hSuq1) ?_
     clear HK
     have QB := Lib.hid (al1 Udu (.cells #[.slice none 0 0, .slice none 0 0] 27))
     obtain ⟨pb, hpb⟩ : ∃ p, Udu.heap.size = p := ⟨_, rfl⟩
     have hpb2 : W2.heap.size ≤ pb := by rw [← hpb]; exact (hS0u).size
     have hpl : pb < (Udu.alloc (.cells #[.slice none 0 0, .slice none 0 0] 27)).heap.size := by rw [← hpb]; simp
     rw [hpb] at QB ⊢
     clear hpb
     generalize Udu.alloc (.cells #[.slice none 0 0, .slice none 0 0] 27) = Vnuq1 at *
     refine but_run (i := 1) (by kernel_rfl) rfl (by rfl) ?_
     simp only [List.getElem_toArray, List.getElem_cons_succ, List.getElem_cons_zero]
     intro K HK
     go_wp2_with fail
     refine (copyTree_any _ _ lo ts _ (HV.out.on hSuq1) HSM.out).mono ?_
     rintro r Vuq2 ⟨vl1, vn1, rfl, o1, hbuq2⟩
     obtain ⟨A1, c1, B1, d1, rfl, rfl⟩ := o1.reads.shape
     go_wp2_with fail
     have hSuq2 : (fun V => Below W2.heap.size W2 V) Vuq2 := bstep hSuq1 hbuq2
     refine HK.out _ _ (fun _ => hSuq2) ?_
     clear HK
     have O1 := Lib.hid ((o1.c.lt).mono (T := fun b => W2.heap.size ≤ b ∧ b ≠ pb) (fun b hb => ⟨Nat.le_trans (hSuq1).size hb.1, by have := hb.1; omega⟩))
     clear o1
     replace QB := Lib.hid (box_on QB.out hbuq2)
     replace hpl : pb < Vuq2.heap.size := Nat.lt_of_lt_of_le hpl hbuq2.size
     refine but_run (i := 3) (by kernel_rfl) rfl (by rfl) ?_
     simp only [List.getElem_toArray, List.getElem_cons_succ, List.getElem_cons_zero]
     intro K HK
     go_wp2_with fail
     refine (HPK.out _ _ _ _ O1.out).mono ?_
     rintro r Vuq3 ⟨vl3, vn3, rfl, o3, hbuq3⟩
     rw [HM1.out, HM2.out] at o3
     obtain ⟨A3, c3, B3, d3, rfl, rfl⟩ := o3.reads.shape
     go_wp2_with fail
     have hSuq3 : (fun V => Below W2.heap.size W2 V) Vuq3 := bstep hSuq2 hbuq3
     refine HK.out _ _ (fun _ => hSuq3) ?_
     clear HK
     have O3 := Lib.hid ((o3.lt).mono (T := fun b => W2.heap.size ≤ b ∧ b ≠ pb) (fun b hb => by rcases hb.1 with h | h; (exact h); exact ⟨by have := (hSuq2).size; omega, by have := hpl; omega⟩))
     clear o3 O1
     replace QB := Lib.hid (box_on QB.out hbuq3)
     replace hpl : pb < Vuq3.heap.size := Nat.lt_of_lt_of_le hpl hbuq3.size
     refine but_run (i := 4) (by kernel_rfl) rfl (by rfl) ?_
     simp only [List.getElem_toArray, List.getElem_cons_succ, List.getElem_cons_zero]
     intro K HK
     go_wp2_with fail
     refine (joinNodes_any _ _ m1 m2 _ _ O3.out HML.out (by omega) (by omega)).mono ?_
     rintro r Vuq4 ⟨vl4, vn4, rfl, o4, hbuq4⟩
     rw [HE1.out, HE2.out] at o4
     obtain ⟨A4, c4, B4, d4, rfl, rfl⟩ := o4.reads.shape
     go_wp2_with fail
     have hSuq4 : (fun V => Below W2.heap.size W2 V) Vuq4 := bstep hSuq3 hbuq4
     refine HK.out _ _ (fun _ => hSuq4) ?_
     clear HK
     have O4 := Lib.hid ((o4.lt).mono (T := fun b => W2.heap.size ≤ b ∧ b ≠ pb) (fun b hb => by rcases hb.1 with h | h; (exact h); exact ⟨by have := (hSuq3).size; omega, by have := hpl; omega⟩))
     have hl4 : Hid (Vuq4.heap.size ≤ Vuq4.heap.size) := Lib.hid (Nat.le_refl _)
     clear o4 O3 hl4
     replace QB := Lib.hid (box_on QB.out hbuq4)
     replace hpl : pb < Vuq4.heap.size := Nat.lt_of_lt_of_le hpl hbuq4.size
     obtain ⟨y0, y1, y2⟩ := box2 QB.out
     refine but_run (i := 6) (by kernel_rfl) rfl (by rfl) ?_
     simp only [List.getElem_toArray, List.getElem_cons_succ, List.getElem_cons_zero]
     intro K HK
     go_wp2_with fail
     refine HK.out _ _ (fun h => absurd rfl h) ?_
     clear HK
     refine but_done (by kernel_rfl) ?_
     have HO := only_two Vuq4 pb 0 1 (.slice A4 r1.length c4) (.slice B4 r2.length d4)
     have q8 := box_set (i := 1) (u := .slice B4 r2.length d4) (box_set (i := 0) (u := .slice A4 r1.length c4) QB.out)
     have hb8 : Below W2.heap.size W2 Vuq4 := hSuq4
     have t8 := O4.out.keep (w' := (Vuq4.setCell ⟨pb, 0, none⟩ (.slice A4 r1.length c4)).setCell ⟨pb, 1, none⟩ (.slice B4 r2.length d4)) (fun b hb hl => HO.block b hl (fun e => hb.2 e))
     have X8 := Lib.hid (show _ from q8)
     have Y8 := Lib.hid t8
     have Z8 := Lib.hid (hb8.trans (HO.below hb8.size (fun b hb => by have : b = pb := hb; omega)))
     clear HO q8 hb8 t8
     go_wp2_with fail
     go_meet
     exact ⟨pb, A4, c4, B4, d4, rfl, hpb2, X8, Y8, Z8⟩
   case rest =>
    obtain ⟨pb, A4, c4, B4, d4, rfl, hpb2, QB, O4, BX⟩ := hcut
    obtain ⟨W3, rfl⟩ : ∃ W, W = wc := ⟨_, rfl⟩
    replace HV := Lib.hid (HV.out.on BX.out)
    replace HB := Lib.hid (bstep HB.out BX.out)
    replace QT := Lib.hid (box_on QT.out BX.out)
    replace QR := Lib.hid (box_on QR.out BX.out)
    have hz3 := BX.out.size
    clear BX QK
    obtain ⟨p0, p1, p2⟩ := box2 QB.out
    go_wp2_with fail
    refine (implTreeOk_any _ _ r1 r2 _ O4.out.reads (by omega) (by omega) (by omega)).mono ?_
    rintro e W4 ⟨rfl, b4⟩
    replace HV := Lib.hid (HV.out.on b4)
    replace HB := Lib.hid (bstep HB.out b4)
    replace QT := Lib.hid (box_on QT.out b4)
    replace QR := Lib.hid (box_on QR.out b4)
    replace QB := Lib.hid (box_on QB.out b4)
    replace O4 := Lib.hid (O4.out.on b4)
    have hz4 := b4.size
    clear b4 p0 p1 p2
    cases hrk : treeOkB r1 r2
    ·have HRB : Hid (RB = false) := Lib.hid (by rw [HRB0.out, hrk])
     have HRT : Hid (RT = (lo, ts)) := Lib.hid (by rw [HPT.out, HRB.out]; rfl)
     clear hrk
     obtain ⟨x0, x1, x2⟩ := box2 QT.out
     obtain ⟨y0, y1, y2⟩ := box2 QR.out
     go_wp2_with fail
     refine (copyTree_any _ _ lo ts _ HV.out HSM.out).mono ?_
     rintro e W9 ⟨vl9, vn9, rfl, o9, b9⟩
     obtain ⟨A9, c9, B9, d9, rfl, rfl⟩ := o9.reads.shape
     have HO := Lib.hid (only_two W9 (w.heap.size + 2) 0 1 (.slice A9 lo.length c9) (.slice B9 ts.length d9))
     have hz9 := b9.size
     have T9 := Lib.hid ((o9.c.keep (w' := (W9.setCell ⟨w.heap.size + 2, 0, none⟩ (.slice A9 lo.length c9)).setCell ⟨w.heap.size + 2, 1, none⟩ (.slice B9 ts.length d9)) (fun b hb hl => HO.out.block b hl (fun e => by omega))).mono (T := fun b => w.heap.size ≤ b) (fun b hb => by omega))
     have hbb := bstep HB.out b9
     have HB9 := Lib.hid (hbb.trans (HO.out.below hbb.size (fun b hb => by omega)))
     obtain ⟨z0, z1, z2⟩ := box2 (box_on QR.out b9)
     clear x0 x1 x2 y0 y1 y2 o9 hbb HO b9
     go_wp2
     refine bodyPost_ret (v := .tuple #[.agg #[.slice A9 lo.length c9, .slice B9 ts.length d9], .bool false]) (by simp [results, Tryz.results7, go_sem, *]) rfl ?_
     rw [HRB.out, HRT.out]
     exact ⟨_, _, rfl, T9.out, HB9.out⟩
    ·have HRB : Hid (RB = true) := Lib.hid (by rw [HRB0.out, hrk])
     have HRT : Hid (RT = (r1, r2)) := Lib.hid (by rw [HPT.out, HRB.out, HEND.out]; rfl)
     obtain ⟨p0, p1, p2⟩ := box2 QB.out
     obtain ⟨y0, y1, y2⟩ := box2 QR.out
     have HO := Lib.hid (only_two W4 (w.heap.size + 2) 0 1 (.slice A4 r1.length c4) (.slice B4 r2.length d4))
     have T9 := Lib.hid ((O4.out.keep (w' := (W4.setCell ⟨w.heap.size + 2, 0, none⟩ (.slice A4 r1.length c4)).setCell ⟨w.heap.size + 2, 1, none⟩ (.slice B4 r2.length d4)) (fun b hb hl => HO.out.block b hl (fun e => by have := hb.1; omega))).mono (T := fun b => w.heap.size ≤ b) (fun b hb => by have := hb.1; omega))
     have HB9 := Lib.hid (HB.out.trans (HO.out.below HB.out.size (fun b hb => by omega)))
     clear hrk HO
     go_wp2
     refine bodyPost_ret (v := .tuple #[.agg #[.slice A4 r1.length c4, .slice B4 r2.length d4], .bool true]) (by simp [results, Tryz.results7, go_sem, *]) rfl ?_
     rw [HRB.out, HRT.out]
     exact ⟨_, _, rfl, T9.out, HB9.out⟩
end Go.Proofs.YthopkhpiikiknaaGreat
