/- Several texts in one: DoPure, Box, DoApp, DoKill, Last5, DoSnap, DoForm, DoActSnap, PoolOkS, DoSCopy, DoSForm, DoSKill, VolSPut. -/
import Derived.Test.YtlhemcjahcmdeaaGreatDoorPkCG
namespace Go.Proofs.YtlhemcjahcmdeaaGreatDoor
open Go.RowKit
set_option maxRecDepth 100000
set_option linter.unusedSimpArgs false
set_option linter.unusedVariables false

def noVol : VolD := ⟨⟨#[]⟩, 0, 0, false⟩
/-- The first volume of the name, and how to turn it. -/
def volD (d : PoolD) (s : ByteArray) : VolD := d.vo.getD (volJ s d.vo) noVol
def snapD (s t : ByteArray) (f : Bool) (d : PoolD) : Res :=
 if nameOkB t then (if volK s d.vo < 0 then (d, 2) else if 0 ≤ volK t d.vo then (d, 3) else
  (if (ageD d (volD d s).b).2 = 0 then
   (if (ageD (ageD d (volD d s).b).1 (volD d s).b).2 = 0 then
    ({ (ageD (ageD d (volD d s).b).1 (volD d s).b).1 with vo := putV (d.vo.set (volJ s d.vo) { volD d s with b := d.nx }) ⟨t, d.nx + 1, (volD d s).c, f⟩ }, 0)
   else (d, 6)) else (d, 6))) else (d, 1)
end Go.Proofs.YtlhemcjahcmdeaaGreatDoor
namespace Go.Proofs.YtlhemcjahcmdeaaGreatDoor
open Go.RowKit
set_option maxRecDepth 100000
set_option linter.unusedSimpArgs false
set_option linter.unusedVariables false

/-- A volume's field is written where the volume lies. -/
theorem vol_set1 (l : List VolD) (i : Nat) (h : i < l.length) (x : Int) : volvl (l.set i { l[i] with b := x }) = (volvl l).set (i * 4 + 1) (.int .i64 x) := by
 induction l generalizing i with
 |nil => simp at h
 |cons k l ih =>
  rw [volvl_cons]
  cases i with
  |zero => rw [List.set_cons_zero, volvl_cons]; simp [volX]
  |succ i =>
   rw [List.set_cons_succ, volvl_cons, List.set_append_right _ _ (by simp [volX]; omega)]
   simp only [List.length_cons] at h
   have := ih i (by omega)
   simp only [List.getElem_cons_succ]
   rw [this]
   congr 2
   simp [volX]
   omega
theorem Owns.setVol {w : World} {S : Nat → Prop} {g cap j : Nat} {l m : List VolD} {u : Value} (h : Owns w S (.slice (some ⟨g, 0, none⟩) l.length cap) (volsD l)) (hm : volvl m = (volvl l).set j u) (hl : m.length = l.length) : Owns (w.setCell ⟨g, j, none⟩ u) S (.slice (some ⟨g, 0, none⟩) l.length cap) (volsD m) ∧ S g := by
 rcases h.row' with ⟨h, _⟩ | ⟨g', cap', cur, xs, hv, hg, hh, hn, hc, hs, hl2, hx, ho⟩
 ·cases h
 ·cases hv
  have hr := ho.reads
  rw [volC_map] at hr
  have hxe : xs = volvl l := lit_reads (by rw [hr.1]; simp) hr.2
  subst hxe
  refine ⟨?_, hg⟩
  have hR : (w.setCell ⟨g, j, none⟩ u).ownsRow g 41 4 (.slice (some ⟨g, 0, none⟩) l.length cap) l.length ((volvl l).set j u) := by
   have h0 : w.ownsRow g 41 4 (.slice (some ⟨g, 0, none⟩) l.length cap) l.length (volvl l) := ⟨volvl_len l, .inr ⟨g, cap, cur, rfl, Nat.le_refl _, hh, hn, hc, hs, hx⟩⟩
   rcases row_cases h0 with ⟨hv, _⟩ | ⟨g', cap', hv, hb, hR, hn, hc, hl⟩
   ·cases hv
   ·cases hv
    exact (hR.set j u).row hb hn hc (by simpa using hl)
  rw [← hm] at hR
  show Owns _ S _ (.row 41 4 m.length (m.flatMap volC))
  rw [hl]
  refine row_ownsT hR S (fun b hb => by simp [Value.ownBlock] at hb; subst hb; exact hg) ?_ (by rw [vols_len, hl])
  rw [volC_map]
  exact lits_own _ _ _
theorem PoolC.volBlock {t : TypeId} {w : World} {S : Nat → Prop} {vl vn va vc vv : Value} {d : PoolD} (h : PoolC t w S vl vn va vc vv d) (hn : 0 < d.vo.length) : ∃ g cap, vv = .slice (some ⟨g, 0, none⟩) d.vo.length cap ∧ S g ∧ g < w.heap.size ∧ (∀ o, w.frozen? ⟨g, o, none⟩ = false) ∧ ∀ k (hk : k < d.vo.length), VolF w g (k * 4) d.vo[k] := by
 obtain ⟨P, Q, R, T, p1, p2, p3, p4, p5, p6, p7, h1, h2, h3, h4⟩ := h
 have h5 := h4
 rcases h4.row' with ⟨_, h, _⟩ | ⟨g, cap, cur, xs, rfl, hg, hh, hn', hc, hs, hl2, hx, ho⟩
 ·omega
 ·refine ⟨g, cap, rfl, p4 g hg, (Array.getElem?_eq_some_iff.1 hh).1, fun o => frozen_of_row w g o _ _ hh, fun k hk => ?_⟩
  obtain ⟨b, off, hA, hb, hF⟩ := Reads.vols (show Reads w w.heap.size _ (.row 41 4 d.vo.length (d.vo.flatMap volC)) from h5.reads) hn
  cases hA
  simpa using hF k hk
theorem PoolC.setVol {t : TypeId} {w : World} {S : Nat → Prop} {vl vn va vc u : Value} {d : PoolD} {g cap j : Nat} {m : List VolD} (h : PoolC t w S vl vn va vc (.slice (some ⟨g, 0, none⟩) d.vo.length cap) d) (hm : volvl m = (volvl d.vo).set j u) (hl : m.length = d.vo.length) : PoolC t (w.setCell ⟨g, j, none⟩ u) S vl vn va vc (.slice (some ⟨g, 0, none⟩) d.vo.length cap) { d with vo := m } := by
 obtain ⟨P, Q, R, T, p1, p2, p3, p4, p5, p6, p7, h1, h2, h3, h4⟩ := h
 obtain ⟨h5, hg⟩ := h4.setVol hm hl
 have far : ∀ (U : Nat → Prop), ¬ U g → ∀ b, U b → b < w.heap.size → (w.setCell ⟨g, j, none⟩ u).heap[b]? = w.heap[b]? := fun U hU b hb _ => Below.heap_setCell _ _ _ _ (fun e => hU (by have e' : b = g := e; rw [← e']; exact hb))
 exact ⟨P, Q, R, T, p1, p2, p3, p4, p5, p6, p7, h1.keep (far P (fun h => (p5 g h).2.2 hg)), h2.keep (far Q (fun h => (p6 g h).2 hg)), h3.keep (far R (fun h => p7 g h hg)), h5⟩
theorem PoolC.setAge {t : TypeId} {w : World} {S : Nat → Prop} {vl vn va vc : Value} {d : PoolD} {g cap i : Nat} (h : PoolC t w S vl vn va vc (.slice (some ⟨g, 0, none⟩) d.vo.length cap) d) (hi : i < d.vo.length) (x : Int) : PoolC t (w.setCell ⟨g, i * 4 + 1, none⟩ (.int .i64 x)) S vl vn va vc (.slice (some ⟨g, 0, none⟩) d.vo.length cap) { d with vo := d.vo.set i { d.vo[i] with b := x } } := h.setVol (vol_set1 d.vo i hi x) (by simp)
end Go.Proofs.YtlhemcjahcmdeaaGreatDoor
namespace Go.Proofs.YtlhemcjahcmdeaaGreatDoor
open Go.RowKit
set_option maxRecDepth 100000
set_option linter.unusedSimpArgs false
set_option linter.unusedVariables false

theorem only_grown {w w' : World} {o : Option Nat} (h : w.grownBy w' o) : Only (fun b => o = some b) w w' := ⟨h.os, h.tape, h.output, h.size, fun i hi hn => h.block i hi (fun e => hn e.symm)⟩
theorem RowVol.ownT {w : World} {base : Nat} {v : Value} {l : List VolD} (h : RowVol w base v l) (S : Nat → Prop) (hS : ∀ g, v.ownBlock = some g → S g) : Owns w S v (volsD l) := by
 refine row_ownsT (h : w.ownsRow _ _ _ _ _ _) S hS ?_ (vols_len l)
 rw [volC_map]
 exact lits_own _ _ _
theorem RowG.ownT {w : World} {base : Nat} {v : Value} {l : List AgeD} (h : RowG w base v l) (S : Nat → Prop) (hS : ∀ g, v.ownBlock = some g → S g) : Owns w S v (agesD l) := by
 refine row_ownsT (h : w.ownsRow _ _ _ _ _ _) S hS ?_ (ages_len l)
 rw [gC_map]
 exact lits_own _ _ _
theorem RowVol.far {w w' : World} {base : Nat} {v : Value} {l : List VolD} {T : Nat → Prop} (h : RowVol w base v l) (hg : Only T w w') (hd : ∀ b, v.ownBlock = some b → b < w.heap.size → ¬ T b) : RowVol w' base v l := h.keep (fun g hv => hg.block g (h.lt g hv).1 (hd g hv (h.lt g hv).1))
theorem RowG.far {w w' : World} {base : Nat} {v : Value} {l : List AgeD} {T : Nat → Prop} (h : RowG w base v l) (hg : Only T w w') (hd : ∀ b, v.ownBlock = some b → b < w.heap.size → ¬ T b) : RowG w' base v l := h.keep (fun g hv => hg.block g (h.lt g hv).1 (hd g hv (h.lt g hv).1))
theorem operAppVol {o : Oper} {a : Act} {Kn : Act → World → Prop} {Q : Exit → Act → World → Prop} (w : World) (hgd : o.guard = none) (s x : Operand)
  (hop : o.op = .call { callee := .builtin .append, args := #[s, x], argTypes := #[30, 30] })
  (base : Nat) (v : Value) (l : List VolD) (hs : a.eval s = v) (hown : RowVol w base v l) (A : Option Addr) (n c : Nat) (m : List VolD) (hx : a.eval x = .slice A n c) (hmn : m.length = n) (hA : At w A (volvl m)) (hlen : l.length + m.length ≤ 1073741824) (hbase : base ≤ w.heap.size)
  (h : ∀ v' w', RowVol w' base v' (l ++ m) → Below base w w' → Only (fun b => v.ownBlock = some b) w w' → (v'.ownBlock = v.ownBlock ∨ v'.ownBlock = some w.heap.size) → Kn (a.put o.dst v') w') : Oper.wp Tryz.prog o a w Kn Q := by
 subst hmn
 refine operAppN w hgd s x 30 41 4 40 (.agg #[.string ⟨#[]⟩, .int .i64 0, .int .i64 0, .bool false]) hop Tryz.underlying30 vol_info rfl (by omega) (by omega) base l.length v (volvl l) hs hown A m.length c (volvl m) hx (volvl_len m) hA (volvl_cells m) hlen hbase ?_
 intro v' w' h2 h3 h4 h5
 refine h v' w' ?_ ((Below.refl _ _).grown h3 hbase (fun k hk => (hown.lt k hk).2)) (only_grown h3) h5
 rw [← volvl_append, ← List.length_append] at h2
 exact h2
theorem operAppG {o : Oper} {a : Act} {Kn : Act → World → Prop} {Q : Exit → Act → World → Prop} (w : World) (hgd : o.guard = none) (s x : Operand)
  (hop : o.op = .call { callee := .builtin .append, args := #[s, x], argTypes := #[28, 28] })
  (base : Nat) (v : Value) (l : List AgeD) (hs : a.eval s = v) (hown : RowG w base v l) (A : Option Addr) (n c : Nat) (m : List AgeD) (hx : a.eval x = .slice A n c) (hmn : m.length = n) (hA : At w A (gvl m)) (hlen : l.length + m.length ≤ 1073741824) (hbase : base ≤ w.heap.size)
  (h : ∀ v' w', RowG w' base v' (l ++ m) → Below base w w' → Only (fun b => v.ownBlock = some b) w w' → (v'.ownBlock = v.ownBlock ∨ v'.ownBlock = some w.heap.size) → Kn (a.put o.dst v') w') : Oper.wp Tryz.prog o a w Kn Q := by
 subst hmn
 refine operAppN w hgd s x 28 155 2 16 (.agg #[.int .i64 0, .int .i64 0]) hop Tryz.underlying28 age_info rfl (by omega) (by omega) base l.length v (gvl l) hs hown A m.length c (gvl m) hx (gvl_len m) hA (gvl_cells m) hlen hbase ?_
 intro v' w' h2 h3 h4 h5
 refine h v' w' ?_ ((Below.refl _ _).grown h3 hbase (fun k hk => (hown.lt k hk).2)) (only_grown h3) h5
 rw [← gvl_append, ← List.length_append] at h2
 exact h2
end Go.Proofs.YtlhemcjahcmdeaaGreatDoor
namespace Go.Proofs.YtlhemcjahcmdeaaGreatDoor
open Go.RowKit
set_option maxRecDepth 100000
set_option linter.unusedSimpArgs false
set_option linter.unusedVariables false

theorem volK_nat {s : ByteArray} {l : List VolD} (h : ¬ volK s l < 0) : volJ s l < l.length ∧ volK s l = (volJ s l : Int) := by
 unfold volK at h ⊢
 split at h
 ·rename_i h1
  rw [if_pos h1]
  exact ⟨h1, rfl⟩
 ·omega
end Go.Proofs.YtlhemcjahcmdeaaGreatDoor
namespace Go.Proofs.YtlhemcjahcmdeaaGreatDoor
open Go.RowKit
set_option maxRecDepth 100000
set_option linter.unusedSimpArgs false
set_option linter.unusedVariables false

section
variable {P : Program} {md : Region.Mode} {ops : Array Oper} {Q : Exit → Act → World → Prop} {S : World → Prop} {f : Nat}
/-- Three may come up: each is carried out. -/
theorem but_three {i j k : Nat} {oi oj ok : Oper} {n : Nat} {listed : Array Bool} {a : Act} {w : World} (hr : Region.ready md ops listed = [i, j, k]) (hoi : ops[i]? = some oi) (hoj : ops[j]? = some oj) (hok : ops[k]? = some ok) (hwi : Region.wanted oi (yielded ops a.tmps) = true) (hwj : Region.wanted oj (yielded ops a.tmps) = true) (hwk : Region.wanted ok (yielded ops a.tmps) = true)
  (h : ∀ K : Act → World → Prop, Hid (∀ a' w', (i ≠ f → S w') → anyBut P md ops Q S f n (listed.setIfInBounds i true) a' w' → K a' w') → Oper.wp P oi a w K Q)
  (h' : ∀ K : Act → World → Prop, Hid (∀ a' w', (j ≠ f → S w') → anyBut P md ops Q S f n (listed.setIfInBounds j true) a' w' → K a' w') → Oper.wp P oj a w K Q)
  (h'' : ∀ K : Act → World → Prop, Hid (∀ a' w', (k ≠ f → S w') → anyBut P md ops Q S f n (listed.setIfInBounds k true) a' w' → K a' w') → Oper.wp P ok a w K Q) : anyBut P md ops Q S f (n + 1) listed a w := by
 refine ⟨fun h0 => (by rw [h0] at hr; cases hr), fun m hm => ?_⟩
 rw [hr] at hm
 simp only [List.mem_cons, List.not_mem_nil, or_false] at hm
 rcases hm with rfl | rfl | rfl
 ·have h1 := h (fun a' w' => (m ≠ f → S w') ∧ anyBut P md ops Q S f n (listed.setIfInBounds m true) a' w') (Lib.hid (fun a' w' h2 h3 => ⟨h2, h3⟩))
  unfold wpOp
  simp only [hoi, hwi, if_true]
  exact .inl h1
 ·have h1 := h' (fun a' w' => (m ≠ f → S w') ∧ anyBut P md ops Q S f n (listed.setIfInBounds m true) a' w') (Lib.hid (fun a' w' h2 h3 => ⟨h2, h3⟩))
  unfold wpOp
  simp only [hoj, hwj, if_true]
  exact .inl h1
 ·have h1 := h'' (fun a' w' => (m ≠ f → S w') ∧ anyBut P md ops Q S f n (listed.setIfInBounds m true) a' w') (Lib.hid (fun a' w' h2 h3 => ⟨h2, h3⟩))
  unfold wpOp
  simp only [hok, hwk, if_true]
  exact .inl h1
end
end Go.Proofs.YtlhemcjahcmdeaaGreatDoor
namespace Go.Proofs.YtlhemcjahcmdeaaGreatDoor
open Go.RowKit
set_option maxRecDepth 100000
set_option linter.unusedSimpArgs false
set_option linter.unusedVariables false

theorem noname_set {l : List VolD} {u : ByteArray} (h : ∀ y ∈ l, y.a.toList ≠ u.toList) {j : Nat} (hj : j < l.length) (x : Int) : ∀ y ∈ l.set j { l[j] with b := x }, y.a.toList ≠ u.toList := by
 intro y hy
 rcases List.mem_or_eq_of_mem_set hy with hy | rfl
 ·exact h y hy
 ·show l[j].a.toList ≠ u.toList
  exact h l[j] (List.getElem_mem hj)
/-- What snap does where nothing stops it. -/
theorem snap_shape {d : PoolD} {s u : ByteArray} {f : Bool} (hu : nameOkB u = true) (hk : ¬ volK s d.vo < 0) (hu2 : ¬ 0 ≤ volK u d.vo) : ∃ j, ∃ hj : j < d.vo.length, volK s d.vo = (j : Int) ∧
  (newOk d.ag d.nx d.vo[j].b = false → snapD s u f d = (d, 6)) ∧
  (newOk d.ag d.nx d.vo[j].b = true → newOk (newK d.ag d.nx d.vo[j].b) (d.nx + 1) d.vo[j].b = false → snapD s u f d = (d, 6)) ∧
  (newOk d.ag d.nx d.vo[j].b = true → newOk (newK d.ag d.nx d.vo[j].b) (d.nx + 1) d.vo[j].b = true →
   snapD s u f d = ({ d with ag := newK (newK d.ag d.nx d.vo[j].b) (d.nx + 1) d.vo[j].b, vo := putV (d.vo.set j { d.vo[j] with b := d.nx }) ⟨u, d.nx + 1, d.vo[j].c, f⟩, nx := d.nx + 1 + 1 }, 0)) := by
 obtain ⟨hj, hj2⟩ := volK_nat hk
 have hvd : volD d s = d.vo[volJ s d.vo] := by unfold volD; rw [List.getD_eq_getElem?_getD, List.getElem?_eq_getElem hj]; rfl
 have h0 : snapD s u f d = (if (ageD d (volD d s).b).2 = 0 then
   (if (ageD (ageD d (volD d s).b).1 (volD d s).b).2 = 0 then
    ({ (ageD (ageD d (volD d s).b).1 (volD d s).b).1 with vo := putV (d.vo.set (volJ s d.vo) { volD d s with b := d.nx }) ⟨u, d.nx + 1, (volD d s).c, f⟩ }, 0)
   else (d, 6)) else (d, 6)) := by unfold snapD; rw [hu, if_pos rfl, if_neg hk, if_neg hu2]
 rw [hvd] at h0
 refine ⟨volJ s d.vo, hj, hj2, fun h1 => ?_, fun h1 h2 => ?_, fun h1 h2 => ?_⟩
 ·rw [h0, ageD_no h1]; rfl
 ·rw [h0, ageD_yes h1]
  have := ageD_no (d := { d with ag := newK d.ag d.nx d.vo[volJ s d.vo].b, nx := d.nx + 1 }) (f := d.vo[volJ s d.vo].b) h2
  rw [this]; rfl
 ·rw [h0, ageD_yes h1]
  have := ageD_yes (d := { d with ag := newK d.ag d.nx d.vo[volJ s d.vo].b, nx := d.nx + 1 }) (f := d.vo[volJ s d.vo].b) h2
  rw [this]; rfl
set_option maxHeartbeats 8000000 in
theorem snap_any {t : TypeId} (vl vn va vc vv : Value) (d : PoolD) (s u : ByteArray) (f : Bool) (q : Nat) (S : Nat → Prop) (w : World) (hq : w.heap[q]? = some (POOLB vl vn va vc vv d.nx)) (hC : PoolC t w S vl vn va vc vv d) (hS : ¬ S q) (hp : poolOkB d = true) (hu : u.size ≤ maxLen) :
  Calls Tryz.prog 69 #[.pointer (some ⟨q, 0, none⟩), .string s, .string u, .bool f] w (DidP w q S (snapD s u f d)) := by
 obtain ⟨hs, ha, hvo, _, h0, h1, hasc, _⟩ := pool_small hp
 have hR := hC.reads
 obtain ⟨A0, c0, A1, c1, A2, c2, A3, c3, A4, c4, rfl, rfl, rfl, rfl, rfl⟩ := hR.shape
 have HVA := Lib.hid (implVolAt_any _ _ _ _ _ d s w hR (by omega))
 have HVB := Lib.hid (fun (W : World) (b : Below w.heap.size w W) => implVolAt_any _ _ _ _ _ d u W (hR.on b) (by omega))
 have HNM := Lib.hid (fun (W : World) => implNameOk_any u W hu)
 have HVS := Lib.hid volSet_any
 have HPV := Lib.hid (fun (l : List VolD) (A : Option Addr) (c : Nat) (W : World) (h : Reads W W.heap.size (.slice A l.length c) (volsD l)) (hl : l.length ≤ 6) (x : VolD) => putV_any (.slice A l.length c) l x W h (by omega))
 unfold lessVV at HVS HPV
 have HQ := Lib.hid hq
 have HC := Lib.hid hC
 have HS := Lib.hid hS
 have hlt : q < w.heap.size := (Array.getElem?_eq_some_iff.1 hq).1
 have HBD : Hid (d.ag.length ≤ 16 ∧ 1 ≤ d.nx ∧ d.nx ≤ 61 ∧ d.vo.length ≤ 6) := Lib.hid ⟨ha, h0, h1, hvo⟩
 obtain ⟨x0, x1, x2, x3, x4, x5, x6⟩ := boxP hq
 clear hR hC hq hs ha hvo h0 h1 hS hp hu hasc
 obtain ⟨nb, hnb⟩ : ∃ b, nameOkB u = b := ⟨_, rfl⟩
 rw [hnb] at HNM
 have HNB := Lib.hid hnb
 clear hnb
 go_enter Tryz.func69, Tryz.ntmps69
 go_wp2_with fail
 refine HVA.out.mono ?_
 rintro r w1 ⟨rfl, b1⟩
 have B1 := Lib.hid b1
 clear x0 x1 x2 x3 x4 x5 x6 b1 HVA
 go_wp2_with fail
 refine (HNM.out _).mono ?_
 rintro r _ ⟨rfl, rfl⟩
 cases nb
 ·have HD := Lib.hid (show snapD s u f d = (d, 1) by unfold snapD; rw [HNB.out]; rfl)
  go_wp2
  go_ret
  rw [HD.out]
  exact did_err (by decide) B1.out
 ·by_cases hk : volK s d.vo < 0
  ·have HD := Lib.hid (show snapD s u f d = (d, 2) by unfold snapD; rw [HNB.out, if_pos rfl, if_pos hk])
   have d1 : decide (volK s d.vo < 0) = true := decide_eq_true hk
   clear hk
   go_wp2
   go_ret
   rw [HD.out]
   exact did_err (by decide) B1.out
  ·obtain ⟨x0, x1, x2, x3, x4, x5, x6⟩ := boxP (box_on HQ.out B1.out)
   have d1 : decide (volK s d.vo < 0) = false := decide_eq_false hk
   have HK := Lib.hid hk
   clear hk
   go_wp2_with fail
   refine (HVB.out _ B1.out).mono ?_
   rintro r w2 ⟨rfl, b2⟩
   have B2 := Lib.hid (bstep B1.out b2)
   clear x0 x1 x2 x3 x4 x5 x6 b2 HVB d1
   by_cases hu2 : 0 ≤ volK u d.vo
   ·have HD := Lib.hid (show snapD s u f d = (d, 3) by unfold snapD; rw [HNB.out, if_pos rfl, if_neg (by have := HK.out; omega), if_pos hu2])
    have d1 : decide (volK u d.vo ≥ 0) = true := decide_eq_true hu2
    clear hu2
    go_wp2
    go_ret
    rw [HD.out]
    exact did_err (by decide) B2.out
   ·have d1 : decide (volK u d.vo ≥ 0) = false := decide_eq_false hu2
    obtain ⟨j, hj, hj2, hn1, hn2, hn3⟩ := snap_shape (f := f) HNB.out (show ¬ volK s d.vo < 0 by have := HK.out; omega) hu2
    have HU := Lib.hid (mem_noname (s := u) (l := d.vo) (by omega))
    have N1 := Lib.hid hn1
    have N2 := Lib.hid hn2
    have N3 := Lib.hid hn3
    rw [hj2]
    obtain ⟨g, cap, eV, hSg, hgl, hfz, hcell⟩ := (HC.out.on B2.out).volBlock (by omega)
    cases eV
    have hgq : g ≠ q := fun e => HS.out (e ▸ hSg)
    have i1 : (j : Int) < (d.vo.length : Int) := by omega
    have i2 : (0 : Int) ≤ (j : Int) := by omega
    obtain ⟨y0, y1, y2, y3⟩ := hcell j hj
    obtain ⟨x0, x1, x2, x3, x4, x5, x6⟩ := boxP (box_on HQ.out B2.out)
    have hz2 := B2.out.size
    have HNV1 := Lib.hid (newVersion_any _ _ _ _ _ d d.vo[j].b q S w2 (box_on HQ.out B2.out) (HC.out.on B2.out) HS.out (by have := HBD.out; omega) (by have := HBD.out; omega) (by have := HBD.out; omega))
    have HSG := Lib.hid hSg
    clear hu2 hj2 hn1 hn2 hn3 HK HNM hSg
    go_wp2_with fail
    refine HNV1.out.mono ?_
    rintro r w3 (⟨hno, rfl, b3⟩ | ⟨hok, rfl, o3, va3, q3, C3⟩)
    ·have HD := Lib.hid (N1.out hno)
     have B3 := Lib.hid (bstep B2.out b3)
     rw [errV_ne (by decide)]
     clear x0 x1 x2 x3 x4 x5 x6 y0 y1 y2 y3 hno hcell
     go_wp2
     go_ret
     rw [HD.out]
     exact did_err (c := 6) (by decide) B3.out
    ·have hz3 := o3.size
     have HOK := Lib.hid hok
     have O3 := Lib.hid o3
     have Q3 := Lib.hid q3
     have C3 := Lib.hid C3.lt
     obtain ⟨A5, c5, e5, _, _⟩ := (show Reads w3 w3.heap.size va3 (agesD (newK d.ag d.nx d.vo[j].b)) from C3.out.reads.2.1).shapeG
     subst e5
     have HNV2 := Lib.hid (newVersion_any _ _ _ _ _ { d with ag := newK d.ag d.nx d.vo[j].b, nx := d.nx + 1 } d.vo[j].b q _ w3 q3 C3.out (fun h => by rcases h with ⟨h | h, _⟩; exact HS.out h; omega) (by have := HBD.out; have := newK_len d.ag d.nx d.vo[j].b; show (newK d.ag d.nx d.vo[j].b).length ≤ 2000000; omega) (by have := HBD.out; show 0 ≤ d.nx + 1; omega) (by have := HBD.out; show d.nx + 1 ≤ 1000; omega))
     clear x0 x1 x2 x3 x4 x5 x6 o3 q3 hok HNV1
     have Y1 := Lib.hid (hcell j hj)
     clear y0 y1 y2 y3 hcell
     go_wp2_with fail
     refine HNV2.out.mono ?_
     rintro r w4 (⟨hno, rfl, b4⟩ | ⟨hok, rfl, o4, va4, q4, C4⟩)
     ·have HD := Lib.hid (N2.out HOK.out hno)
      have O4 : Only (fun b => b = q ∨ S b) w w4 := ((Only.of_below B2.out _).trans (O3.out.mono (fun b hb => .inl hb))).trans (Only.of_below b4 _)
      have O4 := Lib.hid O4
      rw [errV_ne (by decide)]
      clear hno b4
      go_wp2
      go_ret
      rw [HD.out]
      exact did_errO (c := 6) (by decide) O4.out
     ·have HD := Lib.hid (N3.out HOK.out hok)
      have hz4 := o4.size
      have Q4 := Lib.hid q4
      have O4 : Only (fun b => b = q ∨ S b) w w4 := ((Only.of_below B2.out _).trans (O3.out.mono (fun b hb => .inl hb))).trans (o4.mono (fun b hb => .inl hb))
      have O4 := Lib.hid O4
      have C4 := Lib.hid C4.lt
      obtain ⟨A6, c6, e6, _, _⟩ := (show Reads w4 w4.heap.size va4 (agesD (newK (newK d.ag d.nx d.vo[j].b) (d.nx + 1) d.vo[j].b)) from C4.out.reads.2.1).shapeG
      subst e6
      obtain ⟨g', cap', eV, hSg', hgl', hfz', hcell'⟩ := C4.out.volBlock (show 0 < d.vo.length by omega)
      cases eV
      have hj' : j < d.vo.length := hj
      obtain ⟨y0, y1, y2, y3⟩ := hcell' j hj'
      have CS := Lib.hid (C4.out.setAge (i := j) hj' d.nx)
      have QS := Lib.hid (box_far (g := g) (j := j * 4 + 1) (u := .int .i64 d.nx) q4 (fun e => hgq e.symm))
      have OS := Lib.hid (O4.out.setCell (.inr HSG.out) (j := j * 4 + 1) (.int .i64 d.nx))
      have hzz : (w4.setCell ⟨g, j * 4 + 1, none⟩ (.int .i64 d.nx)).heap.size = w4.heap.size := by simp
      clear q4 hok o4 C4 hcell' O4
      obtain ⟨x0, x1, x2, x3, x4, x5, x6⟩ := boxP Q4.out
      go_upto_region 17 with (fail)
      clear x0 x1 x2 x3 x4 x5 x6 y0 y1 y2 y3 Q4 hfz' hfz
      generalize w4.setCell ⟨g, j * 4 + 1, none⟩ (.int .i64 d.nx) = w5 at *
      have hz5 := Nat.le_of_eq hzz
      have hz6 := Nat.le_of_eq hzz.symm
      clear hzz
      have hset : (d.vo.set j { d.vo[j] with b := d.nx }).length = d.vo.length := by simp
      have CSV : Hid (∀ W, Below w5.heap.size w5 W → Reads W W.heap.size (.slice (some ⟨g, 0, none⟩) d.vo.length c4) (volsD (d.vo.set j { d.vo[j] with b := d.nx }))) := Lib.hid (fun W b => (CS.out.on b).reads.2.2.2)
      obtain ⟨g2, cap2, eV, hSg2, hgl2, hfz2, hcell2⟩ := CS.out.volBlock (show 0 < (d.vo.set j { d.vo[j] with b := d.nx }).length by rw [hset]; omega)
      have eg : g2 = g := by
       have := congrArg Value.ownBlock eV
       simp [Value.ownBlock] at this
       exact this.symm
      have HY2 : Hid (w5.cell? ⟨g, j * 4 + 2, none⟩ = some (.int .i64 d.vo[j].c) ∧ g < w5.heap.size) := Lib.hid (by
       have h := (hcell2 j (by rw [hset]; exact hj)).2.2.1
       rw [eg] at h
       simp only [List.getElem_set_self] at h
       exact ⟨h, eg ▸ hgl2⟩)
      obtain ⟨L, hL⟩ : ∃ L, d.vo.set j { d.vo[j] with b := d.nx } = L := ⟨_, rfl⟩
      rw [hL] at CS CSV hset
      have HL := Lib.hid hL
      have HLL := Lib.hid hset
      clear hL hset eV hSg2 hgl2 hfz2 hcell2 eg
      have QB := Lib.hid QS.out
      have hit := run_itemsV
      have HIT := Lib.hid hit
      clear hit
      refine but_begin (f := 18) (S := fun V => Below w5.heap.size w5 V) (by kernel_rfl) ?_
      have hS0c : Below w5.heap.size w5 w5.drew := Below.drew1 _
      have hz0c : w5.heap.size ≤ w5.drew.heap.size := Nat.le_refl _
      generalize w5.drew = Udc at *
      refine bt (f := 18) (i := 0) (v := ?vc0) rfl (Or.inl ⟨(by rfl), ?hyc0⟩) hS0c ?restc0
      case hyc0 => intro W hW; go_simp; exact rfl
      simp only [zA, zB, zC, Act.put, zD, zE, zF]
      refine bt (f := 18) (i := 1) (v := ?vc1) rfl (Or.inl ⟨(by rfl), ?hyc1⟩) hS0c ?restc1
      case hyc1 => intro W hW; go_simp; exact rfl
      simp only [zA, zB, zC, Act.put, zD, zE, zF]
      refine bt (f := 18) (i := 2) (v := ?vc2) rfl (Or.inl ⟨(by rfl), ?hyc2⟩) hS0c ?restc2
      case hyc2 => intro W hW; go_simp; exact rfl
      simp only [zA, zB, zC, Act.put, zD, zE, zF]
      refine bt (f := 18) (i := 3) (v := ?vc3) rfl (Or.inl ⟨(by rfl), ?hyc3⟩) hS0c ?restc3
      case hyc3 => intro W hW; go_simp; exact rfl
      simp only [zA, zB, zC, Act.put, zD, zE, zF]
      refine bt (f := 18) (i := 4) (v := ?vc4) rfl (Or.inl ⟨(by rfl), ?hyc4⟩) hS0c ?restc4
      case hyc4 =>
       intro W hW
       obtain ⟨x0, x1, x2, x3, x4, x5, x6⟩ := boxP (box_on QB.out hW)
       go_simp
       exact rfl
      simp only [zA, zB, zC, Act.put, zD, zE, zF]
      refine bt (f := 18) (i := 6) (v := ?vc6) rfl (Or.inl ⟨(by rfl), ?hyc6⟩) hS0c ?restc6
      case hyc6 => intro W hW; go_simp; exact rfl
      simp only [zA, zB, zC, Act.put, zD, zE, zF]
      refine bt (f := 18) (i := 7) (v := ?vc7) rfl (Or.inl ⟨(by rfl), ?hyc7⟩) hS0c ?restc7
      case hyc7 => intro W hW; go_simp; exact rfl
      simp only [zA, zB, zC, Act.put, zD, zE, zF]
      refine bt (f := 18) (i := 8) (v := ?vc8) rfl (Or.inl ⟨(by rfl), ?hyc8⟩) hS0c ?restc8
      case hyc8 => intro W hW; go_simp; exact rfl
      simp only [zA, zB, zC, Act.put, zD, zE, zF]
      refine bt (f := 18) (i := 9) (v := ?vc9) rfl (Or.inl ⟨(by rfl), ?hyc9⟩) hS0c ?restc9
      case hyc9 => intro W hW; go_simp; exact rfl
      simp only [zA, zB, zC, Act.put, zD, zE, zF]
      refine bt (f := 18) (i := 10) (v := ?vc10) rfl (Or.inl ⟨(by rfl), ?hyc10⟩) hS0c ?restc10
      case hyc10 => intro W hW; go_simp; exact rfl
      simp only [zA, zB, zC, Act.put, zD, zE, zF]
      refine bt (f := 18) (i := 11) (v := ?vc11) rfl (Or.inl ⟨(by rfl), ?hyc11⟩) hS0c ?restc11
      case hyc11 =>
       intro W hW
       have z0 := (hW.cell (p := ⟨g, j * 4 + 2, none⟩) HY2.out.2).trans HY2.out.1
       go_simp
       exact rfl
      simp only [zA, zB, zC, Act.put, zD, zE, zF]
      refine bt (f := 18) (i := 12) (v := ?vc12) rfl (Or.inl ⟨(by rfl), ?hyc12⟩) hS0c ?restc12
      case hyc12 => intro W hW; go_simp; exact rfl
      simp only [zA, zB, zC, Act.put, zD, zE, zF]
      refine bt (f := 18) (i := 13) (v := ?vc13) rfl (Or.inl ⟨(by rfl), ?hyc13⟩) hS0c ?restc13
      case hyc13 => intro W hW; go_simp; exact rfl
      simp only [zA, zB, zC, Act.put, zD, zE, zF]
      refine but_run (i := 5) (by kernel_rfl) rfl (by rfl) ?_
      simp only [zA, zB, zC]
      intro K HK
      go_wp2_with fail
      refine (HVS.out _ _ _ _).mono ?_
      rintro r Vc1 ⟨rfl, hbc1⟩
      go_wp2_with fail
      have hSc1 : (fun V => Below w5.heap.size w5 V) Vc1 := bstep hS0c hbc1
      refine HK.out _ _ (fun _ => hSc1) ?_
      clear HK
      have hzc1 := hbc1.size
      refine but_run (i := 14) (by kernel_rfl) rfl (by rfl) ?_
      simp only [zA, zB, zC]
      intro K HK
      have hl6 : L.length ≤ 6 := by have := HBD.out; have := HLL.out; omega
      have hrd : Reads Vc1 Vc1.heap.size (.slice (some ⟨g, 0, none⟩) L.length c4) (volsD L) := by rw [HLL.out]; exact CSV.out _ hSc1
      have hpv := HPV.out L (some ⟨g, 0, none⟩) c4 Vc1 hrd hl6 ⟨u, d.nx + 1, d.vo[j].c, f⟩
      rw [HLL.out] at hpv
      clear hrd hl6
      go_wp2_with fail
      refine (hpv).mono ?_
      rintro r Vc2 ⟨v7, rfl, o7, hbc2⟩
      clear hpv
      rw [putVL_ins (by rw [← HL.out]; exact noname_set HU.out hj d.nx)] at o7
      obtain ⟨A7, c7, rfl, _, _⟩ := o7.shape
      have hb7 := hbc2
      go_wp2_with fail
      have hSc2 : (fun V => Below w5.heap.size w5 V) Vc2 := bstep hSc1 hbc2
      refine HK.out _ _ (fun _ => hSc2) ?_
      clear HK
      have hzc2 := hbc2.size
      have OV := Lib.hid o7
      clear o7
      refine bt (f := 18) (i := 15) (v := ?vc15) rfl (Or.inl ⟨(by rfl), ?hyc15⟩) hSc2 ?restc15
      case hyc15 =>
       intro W hW
       have hit := HIT.out
       go_simp
       exact rfl
      simp only [zA, zB, zC, Act.put, zD, zE, zF]
      refine bt (f := 18) (i := 16) (v := ?vc16) rfl (Or.inl ⟨(by rfl), ?hyc16⟩) hSc2 ?restc16
      case hyc16 => intro W hW; go_simp; exact rfl
      simp only [zA, zB, zC, Act.put, zD, zE, zF]
      refine bt (f := 18) (i := 17) (v := ?vc17) rfl (Or.inl ⟨(by rfl), ?hyc17⟩) hSc2 ?restc17
      case hyc17 => intro W hW; go_simp; exact rfl
      simp only [zA, zB, zC, Act.put, zD, zE, zF]
      refine but_run (i := 18) (by kernel_rfl) rfl (by rfl) ?_
      simp only [zA, zB, zC]
      intro K HK
      obtain ⟨z0, z1, z2, z3, z4, z5, z6⟩ := boxP (box_on QB.out (hSc2))
      go_wp2_with fail
      refine HK.out _ _ (fun h => absurd rfl h) ?_
      clear HK
      refine but_done (by kernel_rfl) ?_
      have QF := Lib.hid (box_setP4 (u := .slice A7 (putV L ⟨u, d.nx + 1, d.vo[j].c, f⟩).length c7) (box_on QB.out (hSc2)))
      have CF := Lib.hid ((((CS.out.on (hSc1)).vols hb7 OV.out.owns).setFar (g := q) (j := 4) (u := .slice A7 (putV L ⟨u, d.nx + 1, d.vo[j].c, f⟩).length c7) (fun h => by
       have := hlt
       rcases h with h | h
       ·rcases h with ⟨h | h, _⟩
        ·rcases h with ⟨h | h, _⟩
         ·exact HS.out h
         ·omega
        ·omega
       ·omega)))
      have OF := Lib.hid ((OS.out.trans (Only.of_below (hSc2) _)).setCell (g := q) (j := 4) (.inl rfl) (.slice A7 (putV L ⟨u, d.nx + 1, d.vo[j].c, f⟩).length c7))
      go_wp2
      go_ret
      rw [HD.out, HL.out]
      exact did_ok (t := t) OF.out QF.out (CF.out.mono (fun b hb => by
       rcases hb with h | h
       ·rcases h with ⟨h | h, _⟩
        ·rcases h with ⟨h | h, _⟩
         ·exact .inl h
         ·exact .inr (by omega)
        ·exact .inr (by omega)
       ·exact .inr (by omega)))
theorem snapD_small {d : PoolD} {s u : ByteArray} {f : Bool} (hp : poolOkB d = true) (hn : nameOkB s = true) (h : (snapD s u f d).2 = 0) : SmallP (snapD s u f d).1 ∧ ∀ k ∈ (snapD s u f d).1.vo, k.a.size ≤ maxLen := by
 obtain ⟨hs, ha, hvo, hce, _, _, _, hnm, _⟩ := pool_small hp
 cases hu : nameOkB u
 ·have e : (snapD s u f d).1 = d := by unfold snapD; rw [hu]; rfl
  rw [e]; exact ⟨hs, hnm⟩
 by_cases hk : volK s d.vo < 0
 ·have e : (snapD s u f d).1 = d := by unfold snapD; rw [hu, if_pos rfl, if_pos hk]
  rw [e]; exact ⟨hs, hnm⟩
 by_cases hu2 : 0 ≤ volK u d.vo
 ·have e : (snapD s u f d).1 = d := by unfold snapD; rw [hu, if_pos rfl, if_neg hk, if_pos hu2]
  rw [e]; exact ⟨hs, hnm⟩
 obtain ⟨j, hj, _, h1, h2, h3⟩ := snap_shape (f := f) hu hk hu2
 cases ok1 : newOk d.ag d.nx d.vo[j].b
 ·rw [h1 ok1]; exact ⟨hs, hnm⟩
 cases ok2 : newOk (newK d.ag d.nx d.vo[j].b) (d.nx + 1) d.vo[j].b
 ·rw [h2 ok1 ok2]; exact ⟨hs, hnm⟩
 rw [h3 ok1 ok2]
 have hl := newK_len d.ag d.nx d.vo[j].b
 have hl2 := newK_len (newK d.ag d.nx d.vo[j].b) (d.nx + 1) d.vo[j].b
 have hv := putV_len (d.vo.set j { d.vo[j] with b := d.nx }) ⟨u, d.nx + 1, d.vo[j].c, f⟩
 rw [List.length_set] at hv
 refine ⟨⟨hs.1, ?_, hs.2.2.1, ?_⟩, ?_⟩
 ·show (newK (newK d.ag d.nx d.vo[j].b) (d.nx + 1) d.vo[j].b).length ≤ 1048576
  omega
 ·show (putV (d.vo.set j { d.vo[j] with b := d.nx }) ⟨u, d.nx + 1, d.vo[j].c, f⟩).length ≤ 1048576
  omega
 ·intro k hk
  have hk : k ∈ putV (d.vo.set j { d.vo[j] with b := d.nx }) ⟨u, d.nx + 1, d.vo[j].c, f⟩ := hk
  have hm : ∀ y ∈ d.vo.set j { d.vo[j] with b := d.nx }, y.a.size ≤ maxLen := by
   intro y hy
   rcases List.mem_or_eq_of_mem_set hy with hy | rfl
   ·exact hnm y hy
   ·show d.vo[j].a.size ≤ maxLen
    exact hnm d.vo[j] (List.getElem_mem hj)
  unfold putV at hk
  rcases List.mem_append.1 hk with hk | hk
  ·exact hm k (List.takeWhile_subset _ hk)
  ·rcases List.mem_cons.1 hk with rfl | hk
   ·exact nameOk_size hu
   ·exact hm k (List.dropWhile_subset _ hk)
end Go.Proofs.YtlhemcjahcmdeaaGreatDoor
namespace Go.Proofs.YtlhemcjahcmdeaaGreatDoor
open Go.RowKit
set_option maxRecDepth 100000
set_option linter.unusedSimpArgs false
set_option linter.unusedVariables false

theorem alP5 (w : World) (o p q r u : Obj) : (((((w.alloc o).alloc p).alloc q).alloc r).alloc u).heap[w.heap.size]? = some o ∧ (((((w.alloc o).alloc p).alloc q).alloc r).alloc u).heap[w.heap.size + 1]? = some p ∧ (((((w.alloc o).alloc p).alloc q).alloc r).alloc u).heap[w.heap.size + 1 + 1]? = some q ∧ (((((w.alloc o).alloc p).alloc q).alloc r).alloc u).heap[w.heap.size + 1 + 1 + 1]? = some r ∧ (((((w.alloc o).alloc p).alloc q).alloc r).alloc u).heap[w.heap.size + 1 + 1 + 1 + 1]? = some u :=
 ⟨box_on (alP4 w o p q r).1 (bal1 _ _), box_on (alP4 w o p q r).2.1 (bal1 _ _), box_on (alP4 w o p q r).2.2.1 (bal1 _ _), box_on (alP4 w o p q r).2.2.2 (bal1 _ _), by have := al1 ((((w.alloc o).alloc p).alloc q).alloc r) u; simpa using this⟩
theorem balP5 (w : World) (o p q r u : Obj) : Below w.heap.size w (((((w.alloc o).alloc p).alloc q).alloc r).alloc u) := (bal4 w o p q r).alloc (by simp; omega) _
end Go.Proofs.YtlhemcjahcmdeaaGreatDoor
namespace Go.Proofs.YtlhemcjahcmdeaaGreatDoor
open Go.RowKit
set_option maxRecDepth 100000
set_option linter.unusedSimpArgs false
set_option linter.unusedVariables false

set_option maxHeartbeats 1000000 in
theorem cloSnap_any {t : TypeId} (vl vn va vc vv : Value) (d : PoolD) (s : ByteArray) (u : ByteArray) (f : Bool) (q : Nat) (S : Nat → Prop) (ps pu pf : Nat) (w : World) (hq : w.heap[q]? = some (POOLB vl vn va vc vv d.nx)) (hC : PoolC t w S vl vn va vc vv d) (hS : ¬ S q) (hp : poolOkB d = true) (hu : u.size ≤ maxLen) (kps : w.heap[ps]? = some (.cells #[.string s] 9 (0, 0))) (kpu : w.heap[pu]? = some (.cells #[.string u] 9 (0, 0))) (kpf : w.heap[pf]? = some (.cells #[.bool f] 4 (0, 0))) :
  Calls Tryz.prog 68 #[.pointer (some ⟨q, 0, none⟩), .pointer (some ⟨ps, 0, none⟩), .pointer (some ⟨pu, 0, none⟩), .pointer (some ⟨pf, 0, none⟩)] w (DidP w q S (snapD s u f d)) := by
 have HX := Lib.hid (snap_any vl vn va vc vv d s u f q S w hq hC hS hp hu)
 obtain ⟨xs, _⟩ := box1N kps
 obtain ⟨xu, _⟩ := box1N kpu
 obtain ⟨xf, _⟩ := box1N kpf
 clear hq hC hS hp kps kpu kpf hu
 go_enter Tryz.func68, Tryz.ntmps68
 go_wp2_with fail
 refine HX.out.mono ?_
 rintro r w1 ⟨rfl, h2⟩
 have H2 := Lib.hid h2
 clear h2
 go_wp2
 go_ret
 exact ⟨rfl, H2.out⟩
set_option maxHeartbeats 2000000 in
theorem trySnap_any {t : TypeId} (vl vn va vc vv : Value) (d : PoolD) (s : ByteArray) (u : ByteArray) (f : Bool) (q : Nat) (S : Nat → Prop) (ps pu pf : Nat) (w : World) (hq : w.heap[q]? = some (POOLB vl vn va vc vv d.nx)) (hC : PoolC t w S vl vn va vc vv d) (hS : ¬ S q) (hs : SmallP d) (hnm : ∀ k ∈ d.vo, k.a.size ≤ maxLen) (hz : s.size ≤ maxLen) (hu : u.size ≤ maxLen) (kps : w.heap[ps]? = some (.cells #[.string s] 9 (0, 0))) (kpu : w.heap[pu]? = some (.cells #[.string u] 9 (0, 0))) (kpf : w.heap[pf]? = some (.cells #[.bool f] 4 (0, 0))) (hr : poolOkB d = true → nameOkB s = true → (snapD s u f d).2 = 0 → SmallP (snapD s u f d).1 ∧ ∀ k ∈ (snapD s u f d).1.vo, k.a.size ≤ maxLen) :
  Calls Tryz.prog 115 #[.pointer (some ⟨q, 0, none⟩), .string s, (.func (.func 68) #[] #[.pointer (some ⟨ps, 0, none⟩), .pointer (some ⟨pu, 0, none⟩), .pointer (some ⟨pf, 0, none⟩)])] w (DidP w q S (changeK d s (snapD s u f))) := by
 have HFO := Lib.hid (formOk_any vl vn va vc vv d s w hC.reads hs hnm hz)
 have HX := Lib.hid (fun (hp : poolOkB d = true) (W : World) (b : Below w.heap.size w W) => cloSnap_any vl vn va vc vv d s u f q S ps pu pf W (box_on hq b) (hC.on b) hS hp hu (box_on kps b) (box_on kpu b) (box_on kpf b))
 have HR := Lib.hid hr
 have HQ := Lib.hid hq
 have HM := Lib.hid (changeK_no (d := d) (s := s) (f := snapD s u f))
 have HE := Lib.hid (changeK_code (d := d) (s := s) (f := snapD s u f))
 have HO := Lib.hid (changeK_ok (d := d) (s := s) (f := snapD s u f))
 have hR := hC.reads
 obtain ⟨A0, Ac0, A1, Ac1, A2, Ac2, A3, Ac3, A4, Ac4, rfl, rfl, rfl, rfl, rfl⟩ := hR.shape
 obtain ⟨x0, x1, x2, x3, x4, x5, x6⟩ := boxP hq
 obtain ⟨m, hm⟩ : ∃ m, mayB d s = m := ⟨_, rfl⟩
 rw [hm] at HFO
 have HMB := Lib.hid hm
 obtain ⟨r, hr2⟩ : ∃ r, snapD s u f d = r := ⟨_, rfl⟩
 rw [hr2] at HX HR HE HO
 obtain ⟨y, c⟩ := r
 obtain ⟨yl, yt, ya, yc, yv, yn⟩ := y
 clear hq hC hS hs hnm hz hr hR hm hr2 kps kpu kpf hu
 go_enter Tryz.func115, Tryz.ntmps115
 go_wp2_with fail
 refine HFO.out.mono ?_
 rintro e w1 ⟨rfl, b1⟩
 have B1 := Lib.hid b1
 clear x0 x1 x2 x3 x4 x5 x6 b1 HFO
 cases m
 ·go_wp2
  go_ret
  rw [HM.out HMB.out]
  exact did_err (by decide) B1.out
 ·have hpp := mayB_pool HMB.out
  have HX2 := Lib.hid (HX.out hpp w1 B1.out)
  have HP := Lib.hid hpp
  clear hpp HX
  go_wp2_with fail
  go_at_call 68
  refine HX2.out.mono ?_
  rintro e w2 ⟨rfl, o2, h2⟩
  have O2 := Lib.hid o2
  have H2 := Lib.hid h2
  clear o2 h2 HX2
  by_cases hc : c = 0
  ·subst hc
   obtain ⟨t2, zl, zn, za, zc, zv, q2, C2⟩ := H2.out rfl
   obtain ⟨hsm, hnm⟩ := HR.out HP.out (mayB_name HMB.out) rfl
   have hR2 := C2.reads
   have HPO := Lib.hid (implPoolOk_any zl zn za zc zv _ w2 hR2 hsm hnm)
   have C2 := Lib.hid C2
   have Q2 := Lib.hid q2
   obtain ⟨D0, Dc0, D1, Dc1, D2, Dc2, D3, Dc3, D4, Dc4, rfl, rfl, rfl, rfl, rfl⟩ := hR2.shape
   obtain ⟨x0, x1, x2, x3, x4, x5, x6⟩ := boxP q2
   obtain ⟨pk, hpk⟩ : ∃ b, poolOkB ⟨yl, yt, ya, yc, yv, yn⟩ = b := ⟨_, rfl⟩
   rw [hpk] at HPO
   have HPK := Lib.hid hpk
   clear hsm hnm hR2 q2 hpk H2 HR
   rw [show errV 0 = .nilIface from rfl]
   go_wp2_with fail
   refine HPO.out.mono ?_
   rintro e w3 ⟨rfl, b3⟩
   have B3 := Lib.hid b3
   clear x0 x1 x2 x3 x4 x5 x6 b3 HPO
   have hO : Only (fun b => b = q ∨ S b) w w3 := ((Only.of_below B1.out _).trans O2.out).trans (Only.of_below B3.out _)
   have O3 := Lib.hid hO
   have hz1 := B1.out.size
   clear hO
   cases pk
   ·go_wp2
    go_ret
    rw [(HO.out HMB.out (by first | rfl | trivial)).2 HPK.out]
    exact did_errO (by decide) O3.out
   ·go_wp2
    go_ret
    rw [(HO.out HMB.out (by first | rfl | trivial)).1 HPK.out]
    exact did_ok (t := t2) O3.out (box_on Q2.out B3.out) ((C2.out.on B3.out).mono (fun b hb => hb.elim .inl (fun h => .inr (by omega))))
  ·rw [errV_ne hc]
   have hO : Only (fun b => b = q ∨ S b) w w2 := (Only.of_below B1.out _).trans O2.out
   have O3 := Lib.hid hO
   have HC := Lib.hid hc
   clear hO hc H2 HR
   go_wp2
   go_ret
   rw [HE.out HMB.out HC.out, ← errV_ne HC.out]
   exact did_errO HC.out O3.out
set_option maxHeartbeats 4000000 in
theorem changeSnap_any {t : TypeId} (vl vn va vc vv : Value) (d : PoolD) (s : ByteArray) (u : ByteArray) (f : Bool) (ps pu pf : Nat) (w : World) (hR : RdP t w w.heap.size vl vn va vc vv d) (hs : SmallP d) (hnm : ∀ k ∈ d.vo, k.a.size ≤ maxLen) (hz : s.size ≤ maxLen) (hg : ErrT w) (hu : u.size ≤ maxLen) (kps : w.heap[ps]? = some (.cells #[.string s] 9 (0, 0))) (kpu : w.heap[pu]? = some (.cells #[.string u] 9 (0, 0))) (kpf : w.heap[pf]? = some (.cells #[.bool f] 4 (0, 0))) (hr : poolOkB d = true → nameOkB s = true → (snapD s u f d).2 = 0 → SmallP (snapD s u f d).1 ∧ ∀ k ∈ (snapD s u f d).1.vo, k.a.size ≤ maxLen) :
  Calls Tryz.prog 47 #[.agg #[vl, vn, va, vc, vv, .int .i64 d.nx], .string s, (.func (.func 68) #[] #[.pointer (some ⟨ps, 0, none⟩), .pointer (some ⟨pu, 0, none⟩), .pointer (some ⟨pf, 0, none⟩)])] w (NewPn w (changeK d s (snapD s u f))) := by
 have HCP := Lib.hid (fun W b => copyPool_any vl vn va vc vv d W (hR.on b) hs)
 have HTR := Lib.hid (fun (t : TypeId) (vl vn va vc vv : Value) (q : Nat) (S : Nat → Prop) (W : World) (b : Below w.heap.size w W) (hq : W.heap[q]? = some (POOLB vl vn va vc vv d.nx)) (hC : PoolC t W S vl vn va vc vv d) (hS : ¬ S q) => trySnap_any vl vn va vc vv d s u f q S ps pu pf W hq hC hS hs hnm hz hu (box_on kps b) (box_on kpu b) (box_on kpf b) hr)
 have hsz := hg.size
 have HG := Lib.hid hg
 obtain ⟨A0, Ac0, A1, Ac1, A2, Ac2, A3, Ac3, A4, Ac4, rfl, rfl, rfl, rfl, rfl⟩ := hR.shape
 obtain ⟨r, hr2⟩ : ∃ r, changeK d s (snapD s u f) = r := ⟨_, rfl⟩
 have HK := Lib.hid (changeK_d (d := d) (s := s) (f := snapD s u f))
 rw [hr2] at HTR HK ⊢
 obtain ⟨y, c⟩ := r
 obtain ⟨q0, q1⟩ := al2 w (.cells #[.slice A0 d.lo.length Ac0, .slice A1 d.ts.length Ac1, .slice A2 d.ag.length Ac2, .slice A3 d.ce.length Ac3, .slice A4 d.vo.length Ac4, .int .i64 d.nx] 32) (.cells #[.slice none 0 0, .slice none 0 0, .slice none 0 0, .slice none 0 0, .slice none 0 0, .int .i64 0] 32)
 have Q0 := Lib.hid q0
 have Q1 := Lib.hid q1
 have HB := Lib.hid (bal2 w (.cells #[.slice A0 d.lo.length Ac0, .slice A1 d.ts.length Ac1, .slice A2 d.ag.length Ac2, .slice A3 d.ce.length Ac3, .slice A4 d.vo.length Ac4, .int .i64 d.nx] 32) (.cells #[.slice none 0 0, .slice none 0 0, .slice none 0 0, .slice none 0 0, .slice none 0 0, .int .i64 0] 32))
 have HZ : Hid (((w.alloc (.cells #[.slice A0 d.lo.length Ac0, .slice A1 d.ts.length Ac1, .slice A2 d.ag.length Ac2, .slice A3 d.ce.length Ac3, .slice A4 d.vo.length Ac4, .int .i64 d.nx] 32)).alloc (.cells #[.slice none 0 0, .slice none 0 0, .slice none 0 0, .slice none 0 0, .slice none 0 0, .int .i64 0] 32)).heap.size = w.heap.size + 2) := Lib.hid (by simp)
 clear hR hs hnm hz hr hr2 hg q0 q1 kps kpu kpf hu
 go_enter Tryz.func47, Tryz.ntmps47
 go_upto_region 1 with (fail)
 generalize (w.alloc (.cells #[.slice A0 d.lo.length Ac0, .slice A1 d.ts.length Ac1, .slice A2 d.ag.length Ac2, .slice A3 d.ce.length Ac3, .slice A4 d.vo.length Ac4, .int .i64 d.nx] 32)).alloc (.cells #[.slice none 0 0, .slice none 0 0, .slice none 0 0, .slice none 0 0, .slice none 0 0, .int .i64 0] 32) = W at *
 have hy1 := Nat.le_of_eq HZ.out
 have hy2 := Nat.le_of_eq HZ.out.symm
 obtain ⟨x0, x1, x2, x3, x4, x5, x6⟩ := boxP Q0.out
 go_wp2_with fail
 refine (HCP.out _ HB.out).mono ?_
 rintro e w1 ⟨zl, zn, za, zc, zv, rfl, o1, b1⟩
 have hz1 := b1.size
 obtain ⟨D0, Dc0, D1, Dc1, D2, Dc2, D3, Dc3, D4, Dc4, rfl, rfl, rfl, rfl, rfl⟩ := o1.reads.shape
 have hB2 := bal1 w1 (.cells #[.slice D0 d.lo.length Dc0, .slice D1 d.ts.length Dc1, .slice D2 d.ag.length Dc2, .slice D3 d.ce.length Dc3, .slice D4 d.vo.length Dc4, .int .i64 d.nx] 32)
 have Q2 := Lib.hid (al1 w1 (.cells #[.slice D0 d.lo.length Dc0, .slice D1 d.ts.length Dc1, .slice D2 d.ag.length Dc2, .slice D3 d.ce.length Dc3, .slice D4 d.vo.length Dc4, .int .i64 d.nx] 32))
 have hzz : (w1.alloc (.cells #[.slice D0 d.lo.length Dc0, .slice D1 d.ts.length Dc1, .slice D2 d.ag.length Dc2, .slice D3 d.ce.length Dc3, .slice D4 d.vo.length Dc4, .int .i64 d.nx] 32)).heap.size = w1.heap.size + 1 := by simp
 have O2 := Lib.hid (o1.lt.on hB2)
 have B2 := Lib.hid (bstep b1 hB2)
 clear x0 x1 x2 x3 x4 x5 x6 o1 b1 hB2
 go_upto_region 2 with (fail)
 generalize w1.alloc (.cells #[.slice D0 d.lo.length Dc0, .slice D1 d.ts.length Dc1, .slice D2 d.ag.length Dc2, .slice D3 d.ce.length Dc3, .slice D4 d.vo.length Dc4, .int .i64 d.nx] 32) = w2 at *
 have hz2 := Nat.le_of_eq hzz
 have hz3 := Nat.le_of_eq hzz.symm
 clear hzz
 have hB2 := B2.out
 go_wp2_with fail
 go_at_call 115
 refine (HTR.out _ _ _ _ _ _ w1.heap.size (fun b => W.heap.size ≤ b ∧ b < w1.heap.size) w2 (bstep HB.out B2.out) Q2.out O2.out (fun h => by have := h.2; omega)).mono ?_
 rintro e w3 ⟨rfl, o3, h3⟩
 have hz4 := o3.size
 have B3 := Lib.hid ((bstep HB.out B2.out).trans (o3.below (B := w.heap.size) (by omega) (fun b hb => by rcases hb with h | h <;> omega)))
 have Q03 := Lib.hid (box_only (box_on Q0.out B2.out) o3 (fun h => by have := (Array.getElem?_eq_some_iff.1 Q0.out).1; rcases h with h | h <;> omega))
 have Q13 := Lib.hid (box_only (box_on Q1.out B2.out) o3 (fun h => by have := (Array.getElem?_eq_some_iff.1 Q1.out).1; rcases h with h | h <;> omega))
 have H3 := Lib.hid h3
 clear o3 h3 hB2
 go_wp2_with fail
 refine (codeOf_any c w3 (HG.out.on B3.out hsz)).mono ?_
 rintro e w4 ⟨rfl, b4⟩
 have hz5 := b4.size
 have B4 := Lib.hid (bstep B3.out b4)
 have Q04 := Lib.hid (box_on Q03.out b4)
 have Q14 := Lib.hid (box_on Q13.out b4)
 by_cases hc : c = 0
 ·subst hc
  obtain ⟨t2, zl, zn, za, zc, zv, q2, C2⟩ := H3.out rfl
  have C4 := Lib.hid (C2.on b4)
  have Q4 := box_on q2 b4
  obtain ⟨yl, yt, ya, yc, yv, yn⟩ := y
  obtain ⟨E0, Ec0, E1, Ec1, E2, Ec2, E3, Ec3, E4, Ec4, rfl, rfl, rfl, rfl, rfl⟩ := C2.reads.shape
  obtain ⟨x0, x1, x2, x3, x4, x5, x6⟩ := boxP Q4
  obtain ⟨y0, y1, y2, y3, y4, y5, y6⟩ := boxP Q14.out
  clear H3 C2 q2 Q4 b4
  go_wp2
  refine bodyPost_ret (v := .tuple #[.agg #[.slice E0 yl.length Ec0, .slice E1 yt.length Ec1, .slice E2 ya.length Ec2, .slice E3 yc.length Ec3, .slice E4 yv.length Ec4, .int .i64 yn], .int .i64 0]) (by simp [results, Tryz.results47, go_sem, y0, y1, y2, y3, y4, y5, y6]) rfl ⟨t2, _, _, _, _, _, rfl, ?_, below_set6 B4.out (by omega)⟩
  exact (C4.out.set6 (p := w.heap.size + 1) (fun h => by rcases h with h | h <;> omega)).mono (fun b hb => by rcases hb with h | h <;> omega)
 ·have HC := Lib.hid hc
  have d1 : (c != 0) = true := by simp [hc]
  obtain ⟨x0, x1, x2, x3, x4, x5, x6⟩ := boxP Q04.out
  obtain rfl : d = y := (HK.out hc).symm
  clear H3 b4 hc
  go_wp2_with fail
  refine (HCP.out _ B4.out).mono ?_
  rintro e w5 ⟨zl, zn, za, zc, zv, rfl, o5, b5⟩
  have hz6 := b5.size
  obtain ⟨E0, Ec0, E1, Ec1, E2, Ec2, E3, Ec3, E4, Ec4, rfl, rfl, rfl, rfl, rfl⟩ := o5.reads.shape
  have O5 := Lib.hid o5
  have B5 := Lib.hid (bstep B4.out b5)
  clear x0 x1 x2 x3 x4 x5 x6
  obtain ⟨y0, y1, y2, y3, y4, y5, y6⟩ := boxP (box_on Q14.out b5)
  clear o5 b5
  go_wp2
  refine bodyPost_ret (v := .tuple #[.agg #[.slice E0 d.lo.length Ec0, .slice E1 d.ts.length Ec1, .slice E2 d.ag.length Ec2, .slice E3 d.ce.length Ec3, .slice E4 d.vo.length Ec4, .int .i64 d.nx], .int .i64 c]) (by simp [results, Tryz.results47, go_sem, y0, y1, y2, y3, y4, y5, y6]) rfl ⟨110, _, _, _, _, _, rfl, ?_, below_set6 B5.out (by omega)⟩
  exact (O5.out.set6 (p := w.heap.size + 1) (fun h => by omega)).mono (fun b hb => by omega)
set_option maxHeartbeats 2000000 in
theorem implSnap_any {t : TypeId} (vl vn va vc vv : Value) (d : PoolD) (s : ByteArray) (u : ByteArray) (f : Bool) (w : World) (hR : RdP t w w.heap.size vl vn va vc vv d) (hs : SmallP d) (hnm : ∀ k ∈ d.vo, k.a.size ≤ maxLen) (hz : s.size ≤ maxLen) (hu : u.size ≤ maxLen) (hg : ErrT w) :
  Calls Tryz.prog 23 #[.agg #[vl, vn, va, vc, vv, .int .i64 d.nx], .string s, .string u, .bool f] w (NewPn w (changeK d s (snapD s u f))) := by
 have HCH := Lib.hid (fun (ps pu pf : Nat) (W : World) (b : Below w.heap.size w W) (kps : W.heap[ps]? = some (.cells #[.string s] 9 (0, 0))) (kpu : W.heap[pu]? = some (.cells #[.string u] 9 (0, 0))) (kpf : W.heap[pf]? = some (.cells #[.bool f] 4 (0, 0))) => changeSnap_any vl vn va vc vv d s u f ps pu pf W (hR.on b) hs hnm hz (hg.on b hg.size) hu kps kpu kpf (fun h1 h2 h3 => snapD_small h1 h2 h3))
 obtain ⟨A0, Ac0, A1, Ac1, A2, Ac2, A3, Ac3, A4, Ac4, rfl, rfl, rfl, rfl, rfl⟩ := hR.shape
 obtain ⟨r, hr2⟩ : ∃ r, changeK d s (snapD s u f) = r := ⟨_, rfl⟩
 rw [hr2] at HCH ⊢
 obtain ⟨y, c⟩ := r
 obtain ⟨q0, q1, q2, q3, q4⟩ := alP5 w (.cells #[.slice A0 d.lo.length Ac0, .slice A1 d.ts.length Ac1, .slice A2 d.ag.length Ac2, .slice A3 d.ce.length Ac3, .slice A4 d.vo.length Ac4, .int .i64 d.nx] 32) (.cells #[.string s] 9) (.cells #[.string u] 9) (.cells #[.bool f] 4) (.cells #[.slice none 0 0, .slice none 0 0, .slice none 0 0, .slice none 0 0, .slice none 0 0, .int .i64 0] 32)
 have Q0 := Lib.hid q0
 have Q1 := Lib.hid q1
 have Q2 := Lib.hid q2
 have Q3 := Lib.hid q3
 have Q4 := Lib.hid q4
 have HB := Lib.hid (balP5 w (.cells #[.slice A0 d.lo.length Ac0, .slice A1 d.ts.length Ac1, .slice A2 d.ag.length Ac2, .slice A3 d.ce.length Ac3, .slice A4 d.vo.length Ac4, .int .i64 d.nx] 32) (.cells #[.string s] 9) (.cells #[.string u] 9) (.cells #[.bool f] 4) (.cells #[.slice none 0 0, .slice none 0 0, .slice none 0 0, .slice none 0 0, .slice none 0 0, .int .i64 0] 32))
 have HZ : Hid ((((((w.alloc (.cells #[.slice A0 d.lo.length Ac0, .slice A1 d.ts.length Ac1, .slice A2 d.ag.length Ac2, .slice A3 d.ce.length Ac3, .slice A4 d.vo.length Ac4, .int .i64 d.nx] 32)).alloc (.cells #[.string s] 9)).alloc (.cells #[.string u] 9)).alloc (.cells #[.bool f] 4)).alloc (.cells #[.slice none 0 0, .slice none 0 0, .slice none 0 0, .slice none 0 0, .slice none 0 0, .int .i64 0] 32)).heap.size = w.heap.size + 5) := Lib.hid (by simp)
 clear hR hs hnm hz hr2 hg q0 q1 q2 q3 q4 hu
 go_enter Tryz.func23, Tryz.ntmps23
 go_upto_region 1 with (fail)
 generalize (((((w.alloc (.cells #[.slice A0 d.lo.length Ac0, .slice A1 d.ts.length Ac1, .slice A2 d.ag.length Ac2, .slice A3 d.ce.length Ac3, .slice A4 d.vo.length Ac4, .int .i64 d.nx] 32)).alloc (.cells #[.string s] 9)).alloc (.cells #[.string u] 9)).alloc (.cells #[.bool f] 4)).alloc (.cells #[.slice none 0 0, .slice none 0 0, .slice none 0 0, .slice none 0 0, .slice none 0 0, .int .i64 0] 32)) = W at *
 have hy1 := Nat.le_of_eq HZ.out
 have hy2 := Nat.le_of_eq HZ.out.symm
 obtain ⟨x0, x1, x2, x3, x4, x5, x6⟩ := boxP Q0.out
 obtain ⟨s0, s1⟩ := box1N Q1.out
 go_wp2_with fail
 refine (HCH.out (w.heap.size + 1) (w.heap.size + 1 + 1) (w.heap.size + 1 + 1 + 1) _ HB.out Q1.out Q2.out Q3.out).mono ?_
 rintro e w1 ⟨t1, zl, zn, za, zc, zv, rfl, o1, b1⟩
 have hz1 := b1.size
 obtain ⟨E0, Ec0, E1, Ec1, E2, Ec2, E3, Ec3, E4, Ec4, rfl, rfl, rfl, rfl, rfl⟩ := o1.reads.shape
 have O1 := Lib.hid o1
 have B1 := Lib.hid (bstep HB.out b1)
 clear x0 x1 x2 x3 x4 x5 x6 s0 s1
 obtain ⟨y0, y1, y2, y3, y4, y5, y6⟩ := boxP (box_on Q4.out b1)
 clear o1 b1
 go_wp2
 refine bodyPost_ret (v := .tuple #[.agg #[.slice E0 y.lo.length Ec0, .slice E1 y.ts.length Ec1, .slice E2 y.ag.length Ec2, .slice E3 y.ce.length Ec3, .slice E4 y.vo.length Ec4, .int .i64 y.nx], .int .i64 c]) (by simp [results, Tryz.results23, go_sem, y0, y1, y2, y3, y4, y5, y6]) rfl ⟨t1, _, _, _, _, _, rfl, ?_, below_set6 B1.out (by omega)⟩
 exact (O1.out.set6 (p := w.heap.size + 1 + 1 + 1 + 1) (fun h => by omega)).mono (fun b hb => by omega)
end Go.Proofs.YtlhemcjahcmdeaaGreatDoor
namespace Go.Proofs.YtlhemcjahcmdeaaGreatDoor
open Go.RowKit
set_option maxRecDepth 100000
set_option linter.unusedSimpArgs false
set_option linter.unusedVariables false

set_option maxHeartbeats 4000000 in
theorem specPoolOk_any {t : TypeId} (vl vn va vc vv : Value) (d : PoolD) (w : World) (h : RdP t w w.heap.size vl vn va vc vv d) (hs : SmallP d) (hnm : ∀ k ∈ d.vo, k.a.size ≤ maxLen) : Calls Tryz.prog 130 #[.agg #[vl, vn, va, vc, vv, .int .i64 d.nx]] w (SaysBool w (poolOkB d)) := by
 have h1 := hs.1
 have h2 := hs.2.1
 have h3 := hs.2.2.1
 have HT := Lib.hid (fun W b => specTreeOk_any vl vn d.lo d.ts W (h.1.on b) (by omega) (by omega) (by omega))
 have HA := Lib.hid (fun W b => specAgesOk_any va d.ag W (h.2.1.on b) (by omega))
 have HC := Lib.hid (fun W b => specCellsOk_any vc d.ce W ((h.2.2.1.on b).retype _) (by omega))
 have HV := Lib.hid (fun W b => specL10Vols_any vl vn va vc vv d W (h.on b) hs hnm)
 have HE := Lib.hid (fun W b => specL10Keys_any vl vn va vc vv d W (h.on b) hs)
 have HG := Lib.hid h.2.1
 have hag : d.ag.length ≤ 2097152 := by omega
 obtain ⟨A0, c0, A1, c1, A2, c2, A3, c3, A4, c4, rfl, rfl, rfl, rfl, rfl⟩ := h.shape
 have HB := Lib.hid (bal1 w (.cells #[.slice A0 d.lo.length c0, .slice A1 d.ts.length c1, .slice A2 d.ag.length c2, .slice A3 d.ce.length c3, .slice A4 d.vo.length c4, .int .i64 d.nx] 32))
 have Q0 := Lib.hid (al1 w (.cells #[.slice A0 d.lo.length c0, .slice A1 d.ts.length c1, .slice A2 d.ag.length c2, .slice A3 d.ce.length c3, .slice A4 d.vo.length c4, .int .i64 d.nx] 32))
 obtain ⟨R, hR⟩ : ∃ R, poolOkB d = R := ⟨_, rfl⟩
 rw [hR]
 obtain ⟨tb, htb⟩ : ∃ b, treeOkB d.lo d.ts = b := ⟨_, rfl⟩
 obtain ⟨ab, hab⟩ : ∃ b, agesOkB d.ag = b := ⟨_, rfl⟩
 obtain ⟨cb, hcb⟩ : ∃ b, celsOkB d.ce = b := ⟨_, rfl⟩
 obtain ⟨nb, hnb⟩ : ∃ b, (decide (1 ≤ d.nx) && decide (d.nx ≤ 61)) = b := ⟨_, rfl⟩
 obtain ⟨gb, hgb⟩ : ∃ b, d.ag.all (fun a => decide (a.a < d.nx)) = b := ⟨_, rfl⟩
 obtain ⟨vb, hvb⟩ : ∃ b, volsB d = b := ⟨_, rfl⟩
 obtain ⟨kb, hkb⟩ : ∃ b, (agesB d && cellsB d) = b := ⟨_, rfl⟩
 have HI1 : Hid (∀ W, Calls Tryz.prog 63 #[.int .i64 d.nx, .int .i64 1, .int .i64 61] W (SaysB W nb)) := Lib.hid (fun W => by have h := l1InC_any d.nx 1 61 W; rw [hnb] at h; exact h)
 unfold poolOkB nextB at hR
 rw [Bool.and_assoc (treeOkB d.lo d.ts && agesOkB d.ag && celsOkB d.ce && (decide (1 ≤ d.nx) && decide (d.nx ≤ 61) && d.ag.all (fun a => decide (a.a < d.nx))) && volsB d), htb, hab, hcb, hnb, hgb, hvb, hkb] at hR
 rw [htb] at HT
 rw [hab] at HA
 rw [hcb] at HC
 rw [hvb] at HV
 rw [hkb] at HE
 have HX := Lib.hid hR.symm
 have HGB := Lib.hid hgb
 clear h hs hR hnm h1 h2 h3 htb hab hcb hnb hvb hkb hgb
 go_enter Tryz.func130, Tryz.ntmps130
 go_upto_region 1 with (fail)
 generalize w.alloc (.cells #[.slice A0 d.lo.length c0, .slice A1 d.ts.length c1, .slice A2 d.ag.length c2, .slice A3 d.ce.length c3, .slice A4 d.vo.length c4, .int .i64 d.nx] 32) = W at *
 go_wp2
 go_loopw [3] (fun i wr => ∃ k : Nat, k ≤ d.ag.length ∧ i = .int .i64 k ∧ Hid (∀ j (hj : j < k) (hl : j < d.ag.length), (fun k : AgeD => decide (k.a < d.nx)) d.ag[j] = true) ∧ Hid (Below w.heap.size w wr) ∧ Hid (wr.heap[w.heap.size]? = some (.cells #[.slice A0 d.lo.length c0, .slice A1 d.ts.length c1, .slice A2 d.ag.length c2, .slice A3 d.ce.length c3, .slice A4 d.vo.length c4, .int .i64 d.nx] 32))) (fun i _ => d.ag.length - (intOf i).toNat)
 case atStart => exact ⟨0, Nat.zero_le _, rfl, Lib.hid (fun j hj => by omega), HB, Q0⟩
 case round =>
  clear HB Q0
  obtain ⟨k, hk, rfl, HI, HB, Q0⟩ := hrel
  by_cases hlt : k < d.ag.length
  ·obtain ⟨b, off, rfl, hbb, hc⟩ := (HG.out.on HB.out).ages hlt
   have i1 : (k : Int) < (d.ag.length : Int) := by omega
   have i2 : (0 : Int) ≤ (k : Int) := by omega
   obtain ⟨y0, y1⟩ := hc k hlt
   clear hc
   obtain ⟨x0, x1, x2, x3, x4, x5, x6⟩ := boxP Q0.out
   by_cases hv : (d.ag[k]).a < d.nx
   ·have e1 : decide ((d.ag[k]).a ≥ d.nx) = false := decide_eq_false (by omega)
    have HS := Lib.hid (allP_snoc (p := fun k : AgeD => decide (k.a < d.nx)) hlt HI.out (decide_eq_true hv))
    clear hv
    go_wp2
    go_quiet (fail)
    go_wp2
    go_roundw
    case rel => exact ⟨k + 1, by omega, by go_num, HS, Lib.hid (bdrew HB.out _), Lib.hid (box_on Q0.out (drewB _ _))⟩
    case measure => simp [intOf]; omega
   ·have e1 : decide ((d.ag[k]).a ≥ d.nx) = true := decide_eq_true (by omega)
    have HF : Hid (R = false) := Lib.hid (by rw [HX.out, ← HGB.out, allP_miss (p := fun k : AgeD => decide (k.a < d.nx)) hlt (decide_eq_false hv)]; simp only [Bool.false_and, Bool.and_false, Bool.true_and, Bool.and_true])
    clear hv
    go_wp2
    go_quiet (fail)
    go_wp2
    go_ret
    exact ⟨by rw [HF.out]; rfl, bdrew HB.out _⟩
  ·have hall : gb = true := by rw [← HGB.out]; exact allP_done (p := fun k : AgeD => decide (k.a < d.nx)) (fun j hl => HI.out j (by omega) hl)
   subst hall
   obtain ⟨x0, x1, x2, x3, x4, x5, x6⟩ := boxP Q0.out
   go_wp2_with fail
   refine (HT.out _ HB.out).mono ?_
   rintro e w5 ⟨rfl, b1⟩
   clear x0 x1 x2 x3 x4 x5 x6
   replace Q0 := Lib.hid (box_on Q0.out b1)
   replace HB := Lib.hid (bstep HB.out b1)
   clear b1
   cases tb
   ·have HF : Hid (R = false) := Lib.hid (by rw [HX.out]; simp only [Bool.false_and, Bool.and_false, Bool.true_and, Bool.and_true])
    go_wp2
    go_ret
    exact ⟨by rw [HF.out]; rfl, HB.out⟩
   ·skip
    obtain ⟨x0, x1, x2, x3, x4, x5, x6⟩ := boxP Q0.out
    go_wp2_with fail
    refine (HA.out _ HB.out).mono ?_
    rintro e w6 ⟨rfl, b1⟩
    clear x0 x1 x2 x3 x4 x5 x6
    replace Q0 := Lib.hid (box_on Q0.out b1)
    replace HB := Lib.hid (bstep HB.out b1)
    clear b1
    cases ab
    ·have HF : Hid (R = false) := Lib.hid (by rw [HX.out]; simp only [Bool.false_and, Bool.and_false, Bool.true_and, Bool.and_true])
     go_wp2
     go_ret
     exact ⟨by rw [HF.out]; rfl, HB.out⟩
    ·skip
     obtain ⟨x0, x1, x2, x3, x4, x5, x6⟩ := boxP Q0.out
     go_wp2_with fail
     refine (HC.out _ HB.out).mono ?_
     rintro e _ ⟨rfl, rfl⟩
     clear x0 x1 x2 x3 x4 x5 x6
     cases cb
     ·have HF : Hid (R = false) := Lib.hid (by rw [HX.out]; simp only [Bool.false_and, Bool.and_false, Bool.true_and, Bool.and_true])
      go_wp2
      go_ret
      exact ⟨by rw [HF.out]; rfl, HB.out⟩
     ·skip
      obtain ⟨x0, x1, x2, x3, x4, x5, x6⟩ := boxP Q0.out
      go_wp2_with fail
      refine (HI1.out _).mono ?_
      rintro e _ ⟨rfl, rfl⟩
      clear x0 x1 x2 x3 x4 x5 x6
      cases nb
      ·have HF : Hid (R = false) := Lib.hid (by rw [HX.out]; simp only [Bool.false_and, Bool.and_false, Bool.true_and, Bool.and_true])
       go_wp2
       go_ret
       exact ⟨by rw [HF.out]; rfl, HB.out⟩
      ·skip
       obtain ⟨x0, x1, x2, x3, x4, x5, x6⟩ := boxP Q0.out
       go_wp2_with fail
       refine (HV.out _ HB.out).mono ?_
       rintro e w9 ⟨rfl, b1⟩
       clear x0 x1 x2 x3 x4 x5 x6
       replace Q0 := Lib.hid (box_on Q0.out b1)
       replace HB := Lib.hid (bstep HB.out b1)
       clear b1
       cases vb
       ·have HF : Hid (R = false) := Lib.hid (by rw [HX.out]; simp only [Bool.false_and, Bool.and_false, Bool.true_and, Bool.and_true])
        go_wp2
        go_ret
        exact ⟨by rw [HF.out]; rfl, HB.out⟩
       ·skip
        obtain ⟨x0, x1, x2, x3, x4, x5, x6⟩ := boxP Q0.out
        go_wp2_with fail
        refine (HE.out _ HB.out).mono ?_
        rintro e w10 ⟨rfl, b1⟩
        clear x0 x1 x2 x3 x4 x5 x6
        replace Q0 := Lib.hid (box_on Q0.out b1)
        replace HB := Lib.hid (bstep HB.out b1)
        clear b1
        cases kb
        ·have HF : Hid (R = false) := Lib.hid (by rw [HX.out]; simp only [Bool.false_and, Bool.and_false, Bool.true_and, Bool.and_true])
         go_wp2
         go_ret
         exact ⟨by rw [HF.out]; rfl, HB.out⟩
        ·have HF : Hid (R = true) := Lib.hid (by rw [HX.out]; simp only [Bool.false_and, Bool.and_false, Bool.true_and, Bool.and_true])
         go_wp2
         go_ret
         exact ⟨by rw [HF.out]; rfl, HB.out⟩
end Go.Proofs.YtlhemcjahcmdeaaGreatDoor
namespace Go.Proofs.YtlhemcjahcmdeaaGreatDoor
open Go.RowKit
set_option maxRecDepth 100000
set_option linter.unusedSimpArgs false
set_option linter.unusedVariables false

theorem own_at {v : Value} {g n : Nat} (h : v.ownBlock = (Value.slice (some ⟨g, 0, none⟩) 0 0).ownBlock ∨ v.ownBlock = some n) : ∀ b, v.ownBlock = some b → b = g ∨ b = n := by
 intro b hb
 rcases h with h | h
 ·rw [h] at hb
  simp [Value.ownBlock] at hb
  exact .inl hb.symm
 ·rw [h] at hb
  injection hb with hb
  exact .inr hb.symm
set_option maxHeartbeats 8000000 in
theorem l10Copy_any {t : TypeId} (vl vn va vc vv : Value) (d : PoolD) (w : World) (h : RdP t w w.heap.size vl vn va vc vv d) (hs : SmallP d) : Calls Tryz.prog 61 #[.agg #[vl, vn, va, vc, vv, .int .i64 d.nx]] w (NewP 110 w d) := by
 have s2 := hs.2.1
 have s3 := hs.2.2.1
 have s4 := hs.2.2.2
 have HT := Lib.hid (fun W b => l6Copy_any vl vn d.lo d.ts W (h.1.on b) hs.t)
 have HC := Lib.hid (fun W b => l9Copy_any vc d.ce W ((h.2.2.1.on b).retype _) (by omega))
 have hA2 := h.2.1
 have hA4 := h.2.2.2
 obtain ⟨A0, c0, A1, c1, A2, c2, A3, c3, A4, c4, rfl, rfl, rfl, rfl, rfl⟩ := h.shape
 have HG := Lib.hid hA2.atG
 have HV := Lib.hid hA4.atVol
 obtain ⟨q0, q1⟩ := al2 w (.cells #[.slice A0 d.lo.length c0, .slice A1 d.ts.length c1, .slice A2 d.ag.length c2, .slice A3 d.ce.length c3, .slice A4 d.vo.length c4, .int .i64 d.nx] 32) (.cells #[.slice none 0 0, .slice none 0 0, .slice none 0 0, .slice none 0 0, .slice none 0 0, .int .i64 0] 32)
 have Q0 := Lib.hid q0
 have Q1 := Lib.hid q1
 have HB := Lib.hid (bal2 w (.cells #[.slice A0 d.lo.length c0, .slice A1 d.ts.length c1, .slice A2 d.ag.length c2, .slice A3 d.ce.length c3, .slice A4 d.vo.length c4, .int .i64 d.nx] 32) (.cells #[.slice none 0 0, .slice none 0 0, .slice none 0 0, .slice none 0 0, .slice none 0 0, .int .i64 0] 32))
 have hZ : ((w.alloc (.cells #[.slice A0 d.lo.length c0, .slice A1 d.ts.length c1, .slice A2 d.ag.length c2, .slice A3 d.ce.length c3, .slice A4 d.vo.length c4, .int .i64 d.nx] 32)).alloc (.cells #[.slice none 0 0, .slice none 0 0, .slice none 0 0, .slice none 0 0, .slice none 0 0, .int .i64 0] 32)).heap.size = w.heap.size + 2 := by simp
 clear h hs q0 q1 hA2 hA4
 go_enter Tryz.func61, Tryz.ntmps61
 go_upto_region 1 with (fail)
 generalize (w.alloc (.cells #[.slice A0 d.lo.length c0, .slice A1 d.ts.length c1, .slice A2 d.ag.length c2, .slice A3 d.ce.length c3, .slice A4 d.vo.length c4, .int .i64 d.nx] 32)).alloc (.cells #[.slice none 0 0, .slice none 0 0, .slice none 0 0, .slice none 0 0, .slice none 0 0, .int .i64 0] 32) = wb at *
 have hy1 := Nat.le_of_eq hZ
 have hy2 := Nat.le_of_eq hZ.symm
 clear hZ
 have QB := Lib.hid Q0.out
 clear Q0
 replace HG := Lib.hid (HG.out.on HB.out)
 replace HV := Lib.hid (HV.out.on HB.out)
 refine but_begin (f := 17) (S := fun V => Below wb.heap.size wb V) (by kernel_rfl) ?_
 have hS0c : Below wb.heap.size wb wb.drew := Below.drew1 _
 have hz0c : wb.heap.size ≤ wb.drew.heap.size := Nat.le_refl _
 generalize wb.drew = Udc at *
 replace Q1 := Lib.hid (box_on Q1.out hS0c)
 refine bt (f := 17) (i := 0) (v := ?vc0) rfl (Or.inl ⟨(by rfl), ?hyc0⟩) hS0c ?restc0
 case hyc0 => intro W hW; go_simp; exact rfl
 simp only [zA, zB, zC, Act.put, zD, zE, zF]
 refine bt (f := 17) (i := 1) (v := ?vc1) rfl (Or.inl ⟨(by rfl), ?hyc1⟩) hS0c ?restc1
 case hyc1 =>
  intro W hW
  obtain ⟨x0, x1, x2, x3, x4, x5, x6⟩ := boxP (box_on QB.out hW)
  go_simp
  exact rfl
 simp only [zA, zB, zC, Act.put, zD, zE, zF]
 refine bt (f := 17) (i := 4) (v := ?vc4) rfl (Or.inl ⟨(by rfl), ?hyc4⟩) hS0c ?restc4
 case hyc4 => intro W hW; go_simp; exact rfl
 simp only [zA, zB, zC, Act.put, zD, zE, zF]
 refine bt (f := 17) (i := 5) (v := ?vc5) rfl (Or.inl ⟨(by rfl), ?hyc5⟩) hS0c ?restc5
 case hyc5 =>
  intro W hW
  obtain ⟨x0, x1, x2, x3, x4, x5, x6⟩ := boxP (box_on QB.out hW)
  go_simp
  exact rfl
 simp only [zA, zB, zC, Act.put, zD, zE, zF]
 refine bt (f := 17) (i := 7) (v := ?vc7) rfl (Or.inl ⟨(by rfl), ?hyc7⟩) hS0c ?restc7
 case hyc7 => intro W hW; go_simp; exact rfl
 simp only [zA, zB, zC, Act.put, zD, zE, zF]
 refine bt (f := 17) (i := 8) (v := ?vc8) rfl (Or.inl ⟨(by rfl), ?hyc8⟩) hS0c ?restc8
 case hyc8 =>
  intro W hW
  obtain ⟨x0, x1, x2, x3, x4, x5, x6⟩ := boxP (box_on QB.out hW)
  go_simp
  exact rfl
 simp only [zA, zB, zC, Act.put, zD, zE, zF]
 refine bt (f := 17) (i := 11) (v := ?vc11) rfl (Or.inl ⟨(by rfl), ?hyc11⟩) hS0c ?restc11
 case hyc11 => intro W hW; go_simp; exact rfl
 simp only [zA, zB, zC, Act.put, zD, zE, zF]
 refine bt (f := 17) (i := 12) (v := ?vc12) rfl (Or.inl ⟨(by rfl), ?hyc12⟩) hS0c ?restc12
 case hyc12 =>
  intro W hW
  obtain ⟨x0, x1, x2, x3, x4, x5, x6⟩ := boxP (box_on QB.out hW)
  go_simp
  exact rfl
 simp only [zA, zB, zC, Act.put, zD, zE, zF]
 refine bt (f := 17) (i := 14) (v := ?vc14) rfl (Or.inl ⟨(by rfl), ?hyc14⟩) hS0c ?restc14
 case hyc14 => intro W hW; go_simp; exact rfl
 simp only [zA, zB, zC, Act.put, zD, zE, zF]
 refine bt (f := 17) (i := 15) (v := ?vc15) rfl (Or.inl ⟨(by rfl), ?hyc15⟩) hS0c ?restc15
 case hyc15 =>
  intro W hW
  obtain ⟨x0, x1, x2, x3, x4, x5, x6⟩ := boxP (box_on QB.out hW)
  go_simp
  exact rfl
 simp only [zA, zB, zC, Act.put, zD, zE, zF]
 refine but_three (i := 2) (j := 3) (k := 10) (by kernel_rfl) rfl rfl rfl (by rfl) (by rfl) (by rfl) ?_ ?_ ?_
 ·simp only [zA, zB, zC]
  intro K HK
  go_wp2_with fail
  refine (HT.out _ (bstep HB.out hS0c)).mono ?_
  rintro r Vcp1 ⟨vl1, vn1, rfl, o1, hbcp1⟩
  obtain ⟨B0, e0, B1, e1, rfl, rfl⟩ := o1.reads.shape
  go_wp2_with fail
  have hScp1 : (fun V => Below wb.heap.size wb V) Vcp1 := bstep hS0c hbcp1
  refine HK.out _ _ (fun _ => hScp1) ?_
  clear HK
  have hzcp1 := hbcp1.size
  replace Q1 := Lib.hid (box_on Q1.out hbcp1)
  have OT := Lib.hid o1.lt.c
  clear o1
  refine but_two (i := 3) (j := 10) (by kernel_rfl) rfl rfl (by rfl) (by rfl) ?_ ?_
  ·simp only [zA, zB, zC]
   intro K HK
   go_wp2_with fail
   have hScpp2 : (fun V => Below wb.heap.size wb V) (Vcp1.alloc (.cells #[] 155)) := bstep hScp1 (bal1 _ _)
   refine HK.out _ _ (fun _ => hScpp2) ?_
   clear HK
   have hBcpp2 := bal1 Vcp1 (.cells #[] 155)
   have hzcpp2 : Vcp1.heap.size + 1 ≤ (Vcp1.alloc (.cells #[] 155)).heap.size := by simp
   replace Q1 := Lib.hid (box_on Q1.out hBcpp2)
   replace OT := Lib.hid (OT.out.on hBcpp2)
   have hzacpp2 := (hScp1).size
   have RA := Lib.hid (show RowG (Vcp1.alloc (.cells #[] 155)) Vcp1.heap.size (.slice (some ⟨Vcp1.heap.size, 0, none⟩) 0 0) [] from row_lit Vcp1 155 2)
   generalize Vcp1.alloc (.cells #[] 155) = Vncpp2 at *
   refine but_two (i := 6) (j := 10) (by kernel_rfl) rfl rfl (by rfl) (by rfl) ?_ ?_
   ·simp only [zA, zB, zC]
    intro K HK
    refine operAppG _ (by rfl) (.tmp 6) (.tmp 8) (by rfl) Vcp1.heap.size _ [] (by rfl) RA.out A2 d.ag.length c2 d.ag (by rfl) rfl (HG.out.on hScpp2) (by simp; omega) (by omega) ?_
    intro vcppp3 Vcppp3 ocppp3 bcppp3 gcppp3 acppp3
    rw [List.nil_append] at ocppp3
    obtain ⟨B2, e2, rfl, _, _⟩ := ocppp3.shape
    have hScppp3 : (fun V => Below wb.heap.size wb V) Vcppp3 := (hScpp2).trans (Below.mono bcppp3 (by omega))
    refine HK.out _ _ (fun _ => hScppp3) ?_
    clear HK
    have hzcppp3 := bcppp3.size
    replace Q1 := Lib.hid (box_only Q1.out gcppp3 (fun e => by simp [Value.ownBlock] at e; omega))
    replace OT := Lib.hid (OT.out.far gcppp3 (fun b hb _ e => by simp [Value.ownBlock] at e; first | omega | (simp [Value.ownBlock] at hb; omega)))
    have OA := Lib.hid (ocppp3.ownT (fun b => b = Vcp1.heap.size ∨ b = Vncpp2.heap.size) (own_at acppp3)).lt
    clear ocppp3 acppp3
    simp only [zA, zB, zC, Act.put, zD, zE, zF]
    refine but_two (i := 9) (j := 10) (by kernel_rfl) rfl rfl (by rfl) (by rfl) ?_ ?_
    ·simp only [zA, zB, zC]
     intro K HK
     go_wp2_with fail
     refine (HC.out _ (bstep HB.out hScppp3)).mono ?_
     rintro r Vcpppp4 ⟨vc1, rfl, o3, hbcpppp4⟩
     obtain ⟨B3, e3, rfl, _, _⟩ := o3.shape
     go_wp2_with fail
     have hScpppp4 : (fun V => Below wb.heap.size wb V) Vcpppp4 := bstep hScppp3 hbcpppp4
     refine HK.out _ _ (fun _ => hScpppp4) ?_
     clear HK
     have hzcpppp4 := hbcpppp4.size
     replace Q1 := Lib.hid (box_on Q1.out hbcpppp4)
     replace OT := Lib.hid (OT.out.on hbcpppp4)
     replace OA := Lib.hid (OA.out.on hbcpppp4)
     have OC := Lib.hid o3.owns.lt
     clear o3
     refine but_run (i := 10) (by kernel_rfl) rfl (by rfl) ?_
     simp only [zA, zB, zC]
     intro K HK
     go_wp2_with fail
     have hScpppp5 : (fun V => Below wb.heap.size wb V) (Vcpppp4.alloc (.cells #[] 41)) := bstep hScpppp4 (bal1 _ _)
     refine HK.out _ _ (fun _ => hScpppp5) ?_
     clear HK
     have hBcpppp5 := bal1 Vcpppp4 (.cells #[] 41)
     have hzcpppp5 : Vcpppp4.heap.size + 1 ≤ (Vcpppp4.alloc (.cells #[] 41)).heap.size := by simp
     replace Q1 := Lib.hid (box_on Q1.out hBcpppp5)
     replace OT := Lib.hid (OT.out.on hBcpppp5)
     replace OA := Lib.hid (OA.out.on hBcpppp5)
     replace OC := Lib.hid (OC.out.on hBcpppp5)
     have hzacpppp5 := (hScpppp4).size
     have RV := Lib.hid (RowVol.lit Vcpppp4)
     generalize Vcpppp4.alloc (.cells #[] 41) = Vncpppp5 at *
     refine but_run (i := 13) (by kernel_rfl) rfl (by rfl) ?_
     simp only [zA, zB, zC]
     intro K HK
     refine operAppVol _ (by rfl) (.tmp 13) (.tmp 15) (by rfl) Vcpppp4.heap.size _ [] (by rfl) RV.out A4 d.vo.length c4 d.vo (by rfl) rfl (HV.out.on hScpppp5) (by simp; omega) (by omega) ?_
     intro vcpppp6 Vcpppp6 ocpppp6 bcpppp6 gcpppp6 acpppp6
     rw [List.nil_append] at ocpppp6
     obtain ⟨B4, e4, rfl, _, _⟩ := ocpppp6.shape
     have hScpppp6 : (fun V => Below wb.heap.size wb V) Vcpppp6 := (hScpppp5).trans (Below.mono bcpppp6 (by omega))
     refine HK.out _ _ (fun _ => hScpppp6) ?_
     clear HK
     have hzcpppp6 := bcpppp6.size
     replace Q1 := Lib.hid (box_only Q1.out gcpppp6 (fun e => by simp [Value.ownBlock] at e; omega))
     replace OT := Lib.hid (OT.out.far gcpppp6 (fun b hb _ e => by simp [Value.ownBlock] at e; first | omega | (simp [Value.ownBlock] at hb; omega)))
     replace OA := Lib.hid (OA.out.far gcpppp6 (fun b hb _ e => by simp [Value.ownBlock] at e; first | omega | (simp [Value.ownBlock] at hb; omega)))
     replace OC := Lib.hid (OC.out.far gcpppp6 (fun b hb _ e => by simp [Value.ownBlock] at e; first | omega | (simp [Value.ownBlock] at hb; omega)))
     have OV := Lib.hid (ocpppp6.ownT (fun b => b = Vcpppp4.heap.size ∨ b = Vncpppp5.heap.size) (own_at acpppp6)).lt
     clear ocpppp6 acpppp6
     simp only [zA, zB, zC, Act.put, zD, zE, zF]
     refine bt (f := 17) (i := 16) (v := ?vcpppp16) rfl (Or.inl ⟨(by rfl), ?hycpppp16⟩) hScpppp6 ?restcpppp16
     case hycpppp16 => intro W hW; go_simp; exact rfl
     simp only [zA, zB, zC, Act.put, zD, zE, zF]
     refine but_run (i := 17) (by kernel_rfl) rfl (by rfl) ?_
     simp only [zA, zB, zC]
     intro K HK
     obtain ⟨z0, z1, z2, z3, z4, z5, z6⟩ := boxP Q1.out
     go_wp2_with fail
     refine HK.out _ _ (fun h => absurd rfl h) ?_
     clear HK
     refine but_done (by kernel_rfl) ?_
     go_wp2
     refine bodyPost_ret (v := .agg #[.slice B0 d.lo.length e0, .slice B1 d.ts.length e1, .slice B2 d.ag.length e2, .slice B3 d.ce.length e3, .slice B4 d.vo.length e4, .int .i64 d.nx]) (by simp [results, Tryz.results61, go_sem, z0, z1, z2, z3, z4, z5, z6]) rfl ⟨_, _, _, _, _, rfl, ?_, below_set6 (bstep HB.out hScpppp6) (by omega)⟩
     have hP : PoolC 110 Vcpppp6 (fun b => wb.heap.size ≤ b) (.slice B0 d.lo.length e0) (.slice B1 d.ts.length e1) (.slice B2 d.ag.length e2) (.slice B3 d.ce.length e3) (.slice B4 d.vo.length e4) d :=
      ⟨fun b => Udc.heap.size ≤ b ∧ b < Vcp1.heap.size,
       fun b => (b = Vcp1.heap.size ∨ b = Vncpp2.heap.size) ∧ b < Vcppp3.heap.size,
       fun b => Vcppp3.heap.size ≤ b ∧ b < Vcpppp4.heap.size,
       fun b => (b = Vcpppp4.heap.size ∨ b = Vncpppp5.heap.size) ∧ b < Vcpppp6.heap.size, by intro b hb; omega, by intro b hb; omega, by intro b hb; omega, by intro b hb; omega, by intro b hb; refine ⟨?_, ?_, ?_⟩ <;> (intro h; omega), by intro b hb; refine ⟨?_, ?_⟩ <;> (intro h; omega), by intro b hb h; omega, OT.out, OA.out, OC.out, OV.out⟩
     exact (hP.set6 (p := w.heap.size + 1) (fun h => by omega)).mono (fun b hb => by omega)
    ·simp only [zA, zB, zC]
     intro K HK
     go_wp2_with fail
     have hScpppq4 : (fun V => Below wb.heap.size wb V) (Vcppp3.alloc (.cells #[] 41)) := bstep hScppp3 (bal1 _ _)
     refine HK.out _ _ (fun _ => hScpppq4) ?_
     clear HK
     have hBcpppq4 := bal1 Vcppp3 (.cells #[] 41)
     have hzcpppq4 : Vcppp3.heap.size + 1 ≤ (Vcppp3.alloc (.cells #[] 41)).heap.size := by simp
     replace Q1 := Lib.hid (box_on Q1.out hBcpppq4)
     replace OT := Lib.hid (OT.out.on hBcpppq4)
     replace OA := Lib.hid (OA.out.on hBcpppq4)
     have hzacpppq4 := (hScppp3).size
     have RV := Lib.hid (RowVol.lit Vcppp3)
     generalize Vcppp3.alloc (.cells #[] 41) = Vncpppq4 at *
     refine but_run (i := 9) (by kernel_rfl) rfl (by rfl) ?_
     simp only [zA, zB, zC]
     intro K HK
     go_wp2_with fail
     refine (HC.out _ (bstep HB.out hScpppq4)).mono ?_
     rintro r Vcpppq5 ⟨vc1, rfl, o3, hbcpppq5⟩
     obtain ⟨B3, e3, rfl, _, _⟩ := o3.shape
     go_wp2_with fail
     have hScpppq5 : (fun V => Below wb.heap.size wb V) Vcpppq5 := bstep hScpppq4 hbcpppq5
     refine HK.out _ _ (fun _ => hScpppq5) ?_
     clear HK
     have hzcpppq5 := hbcpppq5.size
     replace Q1 := Lib.hid (box_on Q1.out hbcpppq5)
     replace OT := Lib.hid (OT.out.on hbcpppq5)
     replace OA := Lib.hid (OA.out.on hbcpppq5)
     replace RV := Lib.hid (RV.out.on hbcpppq5)
     have OC := Lib.hid o3.owns.lt
     clear o3
     refine but_run (i := 13) (by kernel_rfl) rfl (by rfl) ?_
     simp only [zA, zB, zC]
     intro K HK
     refine operAppVol _ (by rfl) (.tmp 13) (.tmp 15) (by rfl) Vcppp3.heap.size _ [] (by rfl) RV.out A4 d.vo.length c4 d.vo (by rfl) rfl (HV.out.on hScpppq5) (by simp; omega) (by omega) ?_
     intro vcpppq6 Vcpppq6 ocpppq6 bcpppq6 gcpppq6 acpppq6
     rw [List.nil_append] at ocpppq6
     obtain ⟨B4, e4, rfl, _, _⟩ := ocpppq6.shape
     have hScpppq6 : (fun V => Below wb.heap.size wb V) Vcpppq6 := (hScpppq5).trans (Below.mono bcpppq6 (by omega))
     refine HK.out _ _ (fun _ => hScpppq6) ?_
     clear HK
     have hzcpppq6 := bcpppq6.size
     replace Q1 := Lib.hid (box_only Q1.out gcpppq6 (fun e => by simp [Value.ownBlock] at e; omega))
     replace OT := Lib.hid (OT.out.far gcpppq6 (fun b hb _ e => by simp [Value.ownBlock] at e; first | omega | (simp [Value.ownBlock] at hb; omega)))
     replace OA := Lib.hid (OA.out.far gcpppq6 (fun b hb _ e => by simp [Value.ownBlock] at e; first | omega | (simp [Value.ownBlock] at hb; omega)))
     replace OC := Lib.hid (OC.out.far gcpppq6 (fun b hb _ e => by simp [Value.ownBlock] at e; first | omega | (simp [Value.ownBlock] at hb; omega)))
     have OV := Lib.hid (ocpppq6.ownT (fun b => b = Vcppp3.heap.size ∨ b = Vcpppq5.heap.size) (own_at acpppq6)).lt
     clear ocpppq6 acpppq6
     simp only [zA, zB, zC, Act.put, zD, zE, zF]
     refine bt (f := 17) (i := 16) (v := ?vcpppq16) rfl (Or.inl ⟨(by rfl), ?hycpppq16⟩) hScpppq6 ?restcpppq16
     case hycpppq16 => intro W hW; go_simp; exact rfl
     simp only [zA, zB, zC, Act.put, zD, zE, zF]
     refine but_run (i := 17) (by kernel_rfl) rfl (by rfl) ?_
     simp only [zA, zB, zC]
     intro K HK
     obtain ⟨z0, z1, z2, z3, z4, z5, z6⟩ := boxP Q1.out
     go_wp2_with fail
     refine HK.out _ _ (fun h => absurd rfl h) ?_
     clear HK
     refine but_done (by kernel_rfl) ?_
     go_wp2
     refine bodyPost_ret (v := .agg #[.slice B0 d.lo.length e0, .slice B1 d.ts.length e1, .slice B2 d.ag.length e2, .slice B3 d.ce.length e3, .slice B4 d.vo.length e4, .int .i64 d.nx]) (by simp [results, Tryz.results61, go_sem, z0, z1, z2, z3, z4, z5, z6]) rfl ⟨_, _, _, _, _, rfl, ?_, below_set6 (bstep HB.out hScpppq6) (by omega)⟩
     have hP : PoolC 110 Vcpppq6 (fun b => wb.heap.size ≤ b) (.slice B0 d.lo.length e0) (.slice B1 d.ts.length e1) (.slice B2 d.ag.length e2) (.slice B3 d.ce.length e3) (.slice B4 d.vo.length e4) d :=
      ⟨fun b => Udc.heap.size ≤ b ∧ b < Vcp1.heap.size,
       fun b => (b = Vcp1.heap.size ∨ b = Vncpp2.heap.size) ∧ b < Vcppp3.heap.size,
       fun b => Vncpppq4.heap.size ≤ b ∧ b < Vcpppq5.heap.size,
       fun b => (b = Vcppp3.heap.size ∨ b = Vcpppq5.heap.size) ∧ b < Vcpppq6.heap.size, by intro b hb; omega, by intro b hb; omega, by intro b hb; omega, by intro b hb; omega, by intro b hb; refine ⟨?_, ?_, ?_⟩ <;> (intro h; omega), by intro b hb; refine ⟨?_, ?_⟩ <;> (intro h; omega), by intro b hb h; omega, OT.out, OA.out, OC.out, OV.out⟩
     exact (hP.set6 (p := w.heap.size + 1) (fun h => by omega)).mono (fun b hb => by omega)
   ·simp only [zA, zB, zC]
    intro K HK
    go_wp2_with fail
    have hScppq3 : (fun V => Below wb.heap.size wb V) (Vncpp2.alloc (.cells #[] 41)) := bstep hScpp2 (bal1 _ _)
    refine HK.out _ _ (fun _ => hScppq3) ?_
    clear HK
    have hBcppq3 := bal1 Vncpp2 (.cells #[] 41)
    have hzcppq3 : Vncpp2.heap.size + 1 ≤ (Vncpp2.alloc (.cells #[] 41)).heap.size := by simp
    replace Q1 := Lib.hid (box_on Q1.out hBcppq3)
    replace OT := Lib.hid (OT.out.on hBcppq3)
    replace RA := Lib.hid (RA.out.on hBcppq3)
    have hzacppq3 := (hScpp2).size
    have RV := Lib.hid (RowVol.lit Vncpp2)
    generalize Vncpp2.alloc (.cells #[] 41) = Vncppq3 at *
    refine but_run (i := 6) (by kernel_rfl) rfl (by rfl) ?_
    simp only [zA, zB, zC]
    intro K HK
    refine operAppG _ (by rfl) (.tmp 6) (.tmp 8) (by rfl) Vcp1.heap.size _ [] (by rfl) RA.out A2 d.ag.length c2 d.ag (by rfl) rfl (HG.out.on hScppq3) (by simp; omega) (by omega) ?_
    intro vcppq4 Vcppq4 ocppq4 bcppq4 gcppq4 acppq4
    rw [List.nil_append] at ocppq4
    obtain ⟨B2, e2, rfl, _, _⟩ := ocppq4.shape
    have hScppq4 : (fun V => Below wb.heap.size wb V) Vcppq4 := (hScppq3).trans (Below.mono bcppq4 (by omega))
    refine HK.out _ _ (fun _ => hScppq4) ?_
    clear HK
    have hzcppq4 := bcppq4.size
    replace Q1 := Lib.hid (box_only Q1.out gcppq4 (fun e => by simp [Value.ownBlock] at e; omega))
    replace OT := Lib.hid (OT.out.far gcppq4 (fun b hb _ e => by simp [Value.ownBlock] at e; first | omega | (simp [Value.ownBlock] at hb; omega)))
    replace RV := Lib.hid (RV.out.far gcppq4 (fun b hb _ e => by simp [Value.ownBlock] at e; first | omega | (simp [Value.ownBlock] at hb; omega)))
    have OA := Lib.hid (ocppq4.ownT (fun b => b = Vcp1.heap.size ∨ b = Vncppq3.heap.size) (own_at acppq4)).lt
    clear ocppq4 acppq4
    simp only [zA, zB, zC, Act.put, zD, zE, zF]
    refine but_run (i := 9) (by kernel_rfl) rfl (by rfl) ?_
    simp only [zA, zB, zC]
    intro K HK
    go_wp2_with fail
    refine (HC.out _ (bstep HB.out hScppq4)).mono ?_
    rintro r Vcppq5 ⟨vc1, rfl, o3, hbcppq5⟩
    obtain ⟨B3, e3, rfl, _, _⟩ := o3.shape
    go_wp2_with fail
    have hScppq5 : (fun V => Below wb.heap.size wb V) Vcppq5 := bstep hScppq4 hbcppq5
    refine HK.out _ _ (fun _ => hScppq5) ?_
    clear HK
    have hzcppq5 := hbcppq5.size
    replace Q1 := Lib.hid (box_on Q1.out hbcppq5)
    replace OT := Lib.hid (OT.out.on hbcppq5)
    replace RV := Lib.hid (RV.out.on hbcppq5)
    replace OA := Lib.hid (OA.out.on hbcppq5)
    have OC := Lib.hid o3.owns.lt
    clear o3
    refine but_run (i := 13) (by kernel_rfl) rfl (by rfl) ?_
    simp only [zA, zB, zC]
    intro K HK
    refine operAppVol _ (by rfl) (.tmp 13) (.tmp 15) (by rfl) Vncpp2.heap.size _ [] (by rfl) RV.out A4 d.vo.length c4 d.vo (by rfl) rfl (HV.out.on hScppq5) (by simp; omega) (by omega) ?_
    intro vcppq6 Vcppq6 ocppq6 bcppq6 gcppq6 acppq6
    rw [List.nil_append] at ocppq6
    obtain ⟨B4, e4, rfl, _, _⟩ := ocppq6.shape
    have hScppq6 : (fun V => Below wb.heap.size wb V) Vcppq6 := (hScppq5).trans (Below.mono bcppq6 (by omega))
    refine HK.out _ _ (fun _ => hScppq6) ?_
    clear HK
    have hzcppq6 := bcppq6.size
    replace Q1 := Lib.hid (box_only Q1.out gcppq6 (fun e => by simp [Value.ownBlock] at e; omega))
    replace OT := Lib.hid (OT.out.far gcppq6 (fun b hb _ e => by simp [Value.ownBlock] at e; first | omega | (simp [Value.ownBlock] at hb; omega)))
    replace OA := Lib.hid (OA.out.far gcppq6 (fun b hb _ e => by simp [Value.ownBlock] at e; first | omega | (simp [Value.ownBlock] at hb; omega)))
    replace OC := Lib.hid (OC.out.far gcppq6 (fun b hb _ e => by simp [Value.ownBlock] at e; first | omega | (simp [Value.ownBlock] at hb; omega)))
    have OV := Lib.hid (ocppq6.ownT (fun b => b = Vncpp2.heap.size ∨ b = Vcppq5.heap.size) (own_at acppq6)).lt
    clear ocppq6 acppq6
    simp only [zA, zB, zC, Act.put, zD, zE, zF]
    refine bt (f := 17) (i := 16) (v := ?vcppq16) rfl (Or.inl ⟨(by rfl), ?hycppq16⟩) hScppq6 ?restcppq16
    case hycppq16 => intro W hW; go_simp; exact rfl
    simp only [zA, zB, zC, Act.put, zD, zE, zF]
    refine but_run (i := 17) (by kernel_rfl) rfl (by rfl) ?_
    simp only [zA, zB, zC]
    intro K HK
    obtain ⟨z0, z1, z2, z3, z4, z5, z6⟩ := boxP Q1.out
    go_wp2_with fail
    refine HK.out _ _ (fun h => absurd rfl h) ?_
    clear HK
    refine but_done (by kernel_rfl) ?_
    go_wp2
    refine bodyPost_ret (v := .agg #[.slice B0 d.lo.length e0, .slice B1 d.ts.length e1, .slice B2 d.ag.length e2, .slice B3 d.ce.length e3, .slice B4 d.vo.length e4, .int .i64 d.nx]) (by simp [results, Tryz.results61, go_sem, z0, z1, z2, z3, z4, z5, z6]) rfl ⟨_, _, _, _, _, rfl, ?_, below_set6 (bstep HB.out hScppq6) (by omega)⟩
    have hP : PoolC 110 Vcppq6 (fun b => wb.heap.size ≤ b) (.slice B0 d.lo.length e0) (.slice B1 d.ts.length e1) (.slice B2 d.ag.length e2) (.slice B3 d.ce.length e3) (.slice B4 d.vo.length e4) d :=
     ⟨fun b => Udc.heap.size ≤ b ∧ b < Vcp1.heap.size,
      fun b => (b = Vcp1.heap.size ∨ b = Vncppq3.heap.size) ∧ b < Vcppq4.heap.size,
      fun b => Vcppq4.heap.size ≤ b ∧ b < Vcppq5.heap.size,
      fun b => (b = Vncpp2.heap.size ∨ b = Vcppq5.heap.size) ∧ b < Vcppq6.heap.size, by intro b hb; omega, by intro b hb; omega, by intro b hb; omega, by intro b hb; omega, by intro b hb; refine ⟨?_, ?_, ?_⟩ <;> (intro h; omega), by intro b hb; refine ⟨?_, ?_⟩ <;> (intro h; omega), by intro b hb h; omega, OT.out, OA.out, OC.out, OV.out⟩
    exact (hP.set6 (p := w.heap.size + 1) (fun h => by omega)).mono (fun b hb => by omega)
  ·simp only [zA, zB, zC]
   intro K HK
   go_wp2_with fail
   have hScpq2 : (fun V => Below wb.heap.size wb V) (Vcp1.alloc (.cells #[] 41)) := bstep hScp1 (bal1 _ _)
   refine HK.out _ _ (fun _ => hScpq2) ?_
   clear HK
   have hBcpq2 := bal1 Vcp1 (.cells #[] 41)
   have hzcpq2 : Vcp1.heap.size + 1 ≤ (Vcp1.alloc (.cells #[] 41)).heap.size := by simp
   replace Q1 := Lib.hid (box_on Q1.out hBcpq2)
   replace OT := Lib.hid (OT.out.on hBcpq2)
   have hzacpq2 := (hScp1).size
   have RV := Lib.hid (RowVol.lit Vcp1)
   generalize Vcp1.alloc (.cells #[] 41) = Vncpq2 at *
   refine but_run (i := 3) (by kernel_rfl) rfl (by rfl) ?_
   simp only [zA, zB, zC]
   intro K HK
   go_wp2_with fail
   have hScpq3 : (fun V => Below wb.heap.size wb V) (Vncpq2.alloc (.cells #[] 155)) := bstep hScpq2 (bal1 _ _)
   refine HK.out _ _ (fun _ => hScpq3) ?_
   clear HK
   have hBcpq3 := bal1 Vncpq2 (.cells #[] 155)
   have hzcpq3 : Vncpq2.heap.size + 1 ≤ (Vncpq2.alloc (.cells #[] 155)).heap.size := by simp
   replace Q1 := Lib.hid (box_on Q1.out hBcpq3)
   replace OT := Lib.hid (OT.out.on hBcpq3)
   replace RV := Lib.hid (RV.out.on hBcpq3)
   have hzacpq3 := (hScpq2).size
   have RA := Lib.hid (show RowG (Vncpq2.alloc (.cells #[] 155)) Vncpq2.heap.size (.slice (some ⟨Vncpq2.heap.size, 0, none⟩) 0 0) [] from row_lit Vncpq2 155 2)
   generalize Vncpq2.alloc (.cells #[] 155) = Vncpq3 at *
   refine but_run (i := 6) (by kernel_rfl) rfl (by rfl) ?_
   simp only [zA, zB, zC]
   intro K HK
   refine operAppG _ (by rfl) (.tmp 6) (.tmp 8) (by rfl) Vncpq2.heap.size _ [] (by rfl) RA.out A2 d.ag.length c2 d.ag (by rfl) rfl (HG.out.on hScpq3) (by simp; omega) (by omega) ?_
   intro vcpq4 Vcpq4 ocpq4 bcpq4 gcpq4 acpq4
   rw [List.nil_append] at ocpq4
   obtain ⟨B2, e2, rfl, _, _⟩ := ocpq4.shape
   have hScpq4 : (fun V => Below wb.heap.size wb V) Vcpq4 := (hScpq3).trans (Below.mono bcpq4 (by omega))
   refine HK.out _ _ (fun _ => hScpq4) ?_
   clear HK
   have hzcpq4 := bcpq4.size
   replace Q1 := Lib.hid (box_only Q1.out gcpq4 (fun e => by simp [Value.ownBlock] at e; omega))
   replace OT := Lib.hid (OT.out.far gcpq4 (fun b hb _ e => by simp [Value.ownBlock] at e; first | omega | (simp [Value.ownBlock] at hb; omega)))
   replace RV := Lib.hid (RV.out.far gcpq4 (fun b hb _ e => by simp [Value.ownBlock] at e; first | omega | (simp [Value.ownBlock] at hb; omega)))
   have OA := Lib.hid (ocpq4.ownT (fun b => b = Vncpq2.heap.size ∨ b = Vncpq3.heap.size) (own_at acpq4)).lt
   clear ocpq4 acpq4
   simp only [zA, zB, zC, Act.put, zD, zE, zF]
   refine but_run (i := 9) (by kernel_rfl) rfl (by rfl) ?_
   simp only [zA, zB, zC]
   intro K HK
   go_wp2_with fail
   refine (HC.out _ (bstep HB.out hScpq4)).mono ?_
   rintro r Vcpq5 ⟨vc1, rfl, o3, hbcpq5⟩
   obtain ⟨B3, e3, rfl, _, _⟩ := o3.shape
   go_wp2_with fail
   have hScpq5 : (fun V => Below wb.heap.size wb V) Vcpq5 := bstep hScpq4 hbcpq5
   refine HK.out _ _ (fun _ => hScpq5) ?_
   clear HK
   have hzcpq5 := hbcpq5.size
   replace Q1 := Lib.hid (box_on Q1.out hbcpq5)
   replace OT := Lib.hid (OT.out.on hbcpq5)
   replace RV := Lib.hid (RV.out.on hbcpq5)
   replace OA := Lib.hid (OA.out.on hbcpq5)
   have OC := Lib.hid o3.owns.lt
   clear o3
   refine but_run (i := 13) (by kernel_rfl) rfl (by rfl) ?_
   simp only [zA, zB, zC]
   intro K HK
   refine operAppVol _ (by rfl) (.tmp 13) (.tmp 15) (by rfl) Vcp1.heap.size _ [] (by rfl) RV.out A4 d.vo.length c4 d.vo (by rfl) rfl (HV.out.on hScpq5) (by simp; omega) (by omega) ?_
   intro vcpq6 Vcpq6 ocpq6 bcpq6 gcpq6 acpq6
   rw [List.nil_append] at ocpq6
   obtain ⟨B4, e4, rfl, _, _⟩ := ocpq6.shape
   have hScpq6 : (fun V => Below wb.heap.size wb V) Vcpq6 := (hScpq5).trans (Below.mono bcpq6 (by omega))
   refine HK.out _ _ (fun _ => hScpq6) ?_
   clear HK
   have hzcpq6 := bcpq6.size
   replace Q1 := Lib.hid (box_only Q1.out gcpq6 (fun e => by simp [Value.ownBlock] at e; omega))
   replace OT := Lib.hid (OT.out.far gcpq6 (fun b hb _ e => by simp [Value.ownBlock] at e; first | omega | (simp [Value.ownBlock] at hb; omega)))
   replace OA := Lib.hid (OA.out.far gcpq6 (fun b hb _ e => by simp [Value.ownBlock] at e; first | omega | (simp [Value.ownBlock] at hb; omega)))
   replace OC := Lib.hid (OC.out.far gcpq6 (fun b hb _ e => by simp [Value.ownBlock] at e; first | omega | (simp [Value.ownBlock] at hb; omega)))
   have OV := Lib.hid (ocpq6.ownT (fun b => b = Vcp1.heap.size ∨ b = Vcpq5.heap.size) (own_at acpq6)).lt
   clear ocpq6 acpq6
   simp only [zA, zB, zC, Act.put, zD, zE, zF]
   refine bt (f := 17) (i := 16) (v := ?vcpq16) rfl (Or.inl ⟨(by rfl), ?hycpq16⟩) hScpq6 ?restcpq16
   case hycpq16 => intro W hW; go_simp; exact rfl
   simp only [zA, zB, zC, Act.put, zD, zE, zF]
   refine but_run (i := 17) (by kernel_rfl) rfl (by rfl) ?_
   simp only [zA, zB, zC]
   intro K HK
   obtain ⟨z0, z1, z2, z3, z4, z5, z6⟩ := boxP Q1.out
   go_wp2_with fail
   refine HK.out _ _ (fun h => absurd rfl h) ?_
   clear HK
   refine but_done (by kernel_rfl) ?_
   go_wp2
   refine bodyPost_ret (v := .agg #[.slice B0 d.lo.length e0, .slice B1 d.ts.length e1, .slice B2 d.ag.length e2, .slice B3 d.ce.length e3, .slice B4 d.vo.length e4, .int .i64 d.nx]) (by simp [results, Tryz.results61, go_sem, z0, z1, z2, z3, z4, z5, z6]) rfl ⟨_, _, _, _, _, rfl, ?_, below_set6 (bstep HB.out hScpq6) (by omega)⟩
   have hP : PoolC 110 Vcpq6 (fun b => wb.heap.size ≤ b) (.slice B0 d.lo.length e0) (.slice B1 d.ts.length e1) (.slice B2 d.ag.length e2) (.slice B3 d.ce.length e3) (.slice B4 d.vo.length e4) d :=
    ⟨fun b => Udc.heap.size ≤ b ∧ b < Vcp1.heap.size,
     fun b => (b = Vncpq2.heap.size ∨ b = Vncpq3.heap.size) ∧ b < Vcpq4.heap.size,
     fun b => Vcpq4.heap.size ≤ b ∧ b < Vcpq5.heap.size,
     fun b => (b = Vcp1.heap.size ∨ b = Vcpq5.heap.size) ∧ b < Vcpq6.heap.size, by intro b hb; omega, by intro b hb; omega, by intro b hb; omega, by intro b hb; omega, by intro b hb; refine ⟨?_, ?_, ?_⟩ <;> (intro h; omega), by intro b hb; refine ⟨?_, ?_⟩ <;> (intro h; omega), by intro b hb h; omega, OT.out, OA.out, OC.out, OV.out⟩
   exact (hP.set6 (p := w.heap.size + 1) (fun h => by omega)).mono (fun b hb => by omega)
 ·simp only [zA, zB, zC]
  intro K HK
  go_wp2_with fail
  have hScq1 : (fun V => Below wb.heap.size wb V) (Udc.alloc (.cells #[] 155)) := bstep hS0c (bal1 _ _)
  refine HK.out _ _ (fun _ => hScq1) ?_
  clear HK
  have hBcq1 := bal1 Udc (.cells #[] 155)
  have hzcq1 : Udc.heap.size + 1 ≤ (Udc.alloc (.cells #[] 155)).heap.size := by simp
  replace Q1 := Lib.hid (box_on Q1.out hBcq1)
  have hzacq1 := (hS0c).size
  have RA := Lib.hid (show RowG (Udc.alloc (.cells #[] 155)) Udc.heap.size (.slice (some ⟨Udc.heap.size, 0, none⟩) 0 0) [] from row_lit Udc 155 2)
  generalize Udc.alloc (.cells #[] 155) = Vncq1 at *
  refine but_two (i := 2) (j := 10) (by kernel_rfl) rfl rfl (by rfl) (by rfl) ?_ ?_
  ·simp only [zA, zB, zC]
   intro K HK
   go_wp2_with fail
   refine (HT.out _ (bstep HB.out hScq1)).mono ?_
   rintro r Vcqp2 ⟨vl1, vn1, rfl, o1, hbcqp2⟩
   obtain ⟨B0, e0, B1, e1, rfl, rfl⟩ := o1.reads.shape
   go_wp2_with fail
   have hScqp2 : (fun V => Below wb.heap.size wb V) Vcqp2 := bstep hScq1 hbcqp2
   refine HK.out _ _ (fun _ => hScqp2) ?_
   clear HK
   have hzcqp2 := hbcqp2.size
   replace Q1 := Lib.hid (box_on Q1.out hbcqp2)
   replace RA := Lib.hid (RA.out.on hbcqp2)
   have OT := Lib.hid o1.lt.c
   clear o1
   refine but_two (i := 6) (j := 10) (by kernel_rfl) rfl rfl (by rfl) (by rfl) ?_ ?_
   ·simp only [zA, zB, zC]
    intro K HK
    refine operAppG _ (by rfl) (.tmp 6) (.tmp 8) (by rfl) Udc.heap.size _ [] (by rfl) RA.out A2 d.ag.length c2 d.ag (by rfl) rfl (HG.out.on hScqp2) (by simp; omega) (by omega) ?_
    intro vcqpp3 Vcqpp3 ocqpp3 bcqpp3 gcqpp3 acqpp3
    rw [List.nil_append] at ocqpp3
    obtain ⟨B2, e2, rfl, _, _⟩ := ocqpp3.shape
    have hScqpp3 : (fun V => Below wb.heap.size wb V) Vcqpp3 := (hScqp2).trans (Below.mono bcqpp3 (by omega))
    refine HK.out _ _ (fun _ => hScqpp3) ?_
    clear HK
    have hzcqpp3 := bcqpp3.size
    replace Q1 := Lib.hid (box_only Q1.out gcqpp3 (fun e => by simp [Value.ownBlock] at e; omega))
    replace OT := Lib.hid (OT.out.far gcqpp3 (fun b hb _ e => by simp [Value.ownBlock] at e; first | omega | (simp [Value.ownBlock] at hb; omega)))
    have OA := Lib.hid (ocqpp3.ownT (fun b => b = Udc.heap.size ∨ b = Vcqp2.heap.size) (own_at acqpp3)).lt
    clear ocqpp3 acqpp3
    simp only [zA, zB, zC, Act.put, zD, zE, zF]
    refine but_two (i := 9) (j := 10) (by kernel_rfl) rfl rfl (by rfl) (by rfl) ?_ ?_
    ·simp only [zA, zB, zC]
     intro K HK
     go_wp2_with fail
     refine (HC.out _ (bstep HB.out hScqpp3)).mono ?_
     rintro r Vcqppp4 ⟨vc1, rfl, o3, hbcqppp4⟩
     obtain ⟨B3, e3, rfl, _, _⟩ := o3.shape
     go_wp2_with fail
     have hScqppp4 : (fun V => Below wb.heap.size wb V) Vcqppp4 := bstep hScqpp3 hbcqppp4
     refine HK.out _ _ (fun _ => hScqppp4) ?_
     clear HK
     have hzcqppp4 := hbcqppp4.size
     replace Q1 := Lib.hid (box_on Q1.out hbcqppp4)
     replace OT := Lib.hid (OT.out.on hbcqppp4)
     replace OA := Lib.hid (OA.out.on hbcqppp4)
     have OC := Lib.hid o3.owns.lt
     clear o3
     refine but_run (i := 10) (by kernel_rfl) rfl (by rfl) ?_
     simp only [zA, zB, zC]
     intro K HK
     go_wp2_with fail
     have hScqppp5 : (fun V => Below wb.heap.size wb V) (Vcqppp4.alloc (.cells #[] 41)) := bstep hScqppp4 (bal1 _ _)
     refine HK.out _ _ (fun _ => hScqppp5) ?_
     clear HK
     have hBcqppp5 := bal1 Vcqppp4 (.cells #[] 41)
     have hzcqppp5 : Vcqppp4.heap.size + 1 ≤ (Vcqppp4.alloc (.cells #[] 41)).heap.size := by simp
     replace Q1 := Lib.hid (box_on Q1.out hBcqppp5)
     replace OT := Lib.hid (OT.out.on hBcqppp5)
     replace OA := Lib.hid (OA.out.on hBcqppp5)
     replace OC := Lib.hid (OC.out.on hBcqppp5)
     have hzacqppp5 := (hScqppp4).size
     have RV := Lib.hid (RowVol.lit Vcqppp4)
     generalize Vcqppp4.alloc (.cells #[] 41) = Vncqppp5 at *
     refine but_run (i := 13) (by kernel_rfl) rfl (by rfl) ?_
     simp only [zA, zB, zC]
     intro K HK
     refine operAppVol _ (by rfl) (.tmp 13) (.tmp 15) (by rfl) Vcqppp4.heap.size _ [] (by rfl) RV.out A4 d.vo.length c4 d.vo (by rfl) rfl (HV.out.on hScqppp5) (by simp; omega) (by omega) ?_
     intro vcqppp6 Vcqppp6 ocqppp6 bcqppp6 gcqppp6 acqppp6
     rw [List.nil_append] at ocqppp6
     obtain ⟨B4, e4, rfl, _, _⟩ := ocqppp6.shape
     have hScqppp6 : (fun V => Below wb.heap.size wb V) Vcqppp6 := (hScqppp5).trans (Below.mono bcqppp6 (by omega))
     refine HK.out _ _ (fun _ => hScqppp6) ?_
     clear HK
     have hzcqppp6 := bcqppp6.size
     replace Q1 := Lib.hid (box_only Q1.out gcqppp6 (fun e => by simp [Value.ownBlock] at e; omega))
     replace OT := Lib.hid (OT.out.far gcqppp6 (fun b hb _ e => by simp [Value.ownBlock] at e; first | omega | (simp [Value.ownBlock] at hb; omega)))
     replace OA := Lib.hid (OA.out.far gcqppp6 (fun b hb _ e => by simp [Value.ownBlock] at e; first | omega | (simp [Value.ownBlock] at hb; omega)))
     replace OC := Lib.hid (OC.out.far gcqppp6 (fun b hb _ e => by simp [Value.ownBlock] at e; first | omega | (simp [Value.ownBlock] at hb; omega)))
     have OV := Lib.hid (ocqppp6.ownT (fun b => b = Vcqppp4.heap.size ∨ b = Vncqppp5.heap.size) (own_at acqppp6)).lt
     clear ocqppp6 acqppp6
     simp only [zA, zB, zC, Act.put, zD, zE, zF]
     refine bt (f := 17) (i := 16) (v := ?vcqppp16) rfl (Or.inl ⟨(by rfl), ?hycqppp16⟩) hScqppp6 ?restcqppp16
     case hycqppp16 => intro W hW; go_simp; exact rfl
     simp only [zA, zB, zC, Act.put, zD, zE, zF]
     refine but_run (i := 17) (by kernel_rfl) rfl (by rfl) ?_
     simp only [zA, zB, zC]
     intro K HK
     obtain ⟨z0, z1, z2, z3, z4, z5, z6⟩ := boxP Q1.out
     go_wp2_with fail
     refine HK.out _ _ (fun h => absurd rfl h) ?_
     clear HK
     refine but_done (by kernel_rfl) ?_
     go_wp2
     refine bodyPost_ret (v := .agg #[.slice B0 d.lo.length e0, .slice B1 d.ts.length e1, .slice B2 d.ag.length e2, .slice B3 d.ce.length e3, .slice B4 d.vo.length e4, .int .i64 d.nx]) (by simp [results, Tryz.results61, go_sem, z0, z1, z2, z3, z4, z5, z6]) rfl ⟨_, _, _, _, _, rfl, ?_, below_set6 (bstep HB.out hScqppp6) (by omega)⟩
     have hP : PoolC 110 Vcqppp6 (fun b => wb.heap.size ≤ b) (.slice B0 d.lo.length e0) (.slice B1 d.ts.length e1) (.slice B2 d.ag.length e2) (.slice B3 d.ce.length e3) (.slice B4 d.vo.length e4) d :=
      ⟨fun b => Vncq1.heap.size ≤ b ∧ b < Vcqp2.heap.size,
       fun b => (b = Udc.heap.size ∨ b = Vcqp2.heap.size) ∧ b < Vcqpp3.heap.size,
       fun b => Vcqpp3.heap.size ≤ b ∧ b < Vcqppp4.heap.size,
       fun b => (b = Vcqppp4.heap.size ∨ b = Vncqppp5.heap.size) ∧ b < Vcqppp6.heap.size, by intro b hb; omega, by intro b hb; omega, by intro b hb; omega, by intro b hb; omega, by intro b hb; refine ⟨?_, ?_, ?_⟩ <;> (intro h; omega), by intro b hb; refine ⟨?_, ?_⟩ <;> (intro h; omega), by intro b hb h; omega, OT.out, OA.out, OC.out, OV.out⟩
     exact (hP.set6 (p := w.heap.size + 1) (fun h => by omega)).mono (fun b hb => by omega)
    ·simp only [zA, zB, zC]
     intro K HK
     go_wp2_with fail
     have hScqppq4 : (fun V => Below wb.heap.size wb V) (Vcqpp3.alloc (.cells #[] 41)) := bstep hScqpp3 (bal1 _ _)
     refine HK.out _ _ (fun _ => hScqppq4) ?_
     clear HK
     have hBcqppq4 := bal1 Vcqpp3 (.cells #[] 41)
     have hzcqppq4 : Vcqpp3.heap.size + 1 ≤ (Vcqpp3.alloc (.cells #[] 41)).heap.size := by simp
     replace Q1 := Lib.hid (box_on Q1.out hBcqppq4)
     replace OT := Lib.hid (OT.out.on hBcqppq4)
     replace OA := Lib.hid (OA.out.on hBcqppq4)
     have hzacqppq4 := (hScqpp3).size
     have RV := Lib.hid (RowVol.lit Vcqpp3)
     generalize Vcqpp3.alloc (.cells #[] 41) = Vncqppq4 at *
     refine but_run (i := 9) (by kernel_rfl) rfl (by rfl) ?_
     simp only [zA, zB, zC]
     intro K HK
     go_wp2_with fail
     refine (HC.out _ (bstep HB.out hScqppq4)).mono ?_
     rintro r Vcqppq5 ⟨vc1, rfl, o3, hbcqppq5⟩
     obtain ⟨B3, e3, rfl, _, _⟩ := o3.shape
     go_wp2_with fail
     have hScqppq5 : (fun V => Below wb.heap.size wb V) Vcqppq5 := bstep hScqppq4 hbcqppq5
     refine HK.out _ _ (fun _ => hScqppq5) ?_
     clear HK
     have hzcqppq5 := hbcqppq5.size
     replace Q1 := Lib.hid (box_on Q1.out hbcqppq5)
     replace OT := Lib.hid (OT.out.on hbcqppq5)
     replace OA := Lib.hid (OA.out.on hbcqppq5)
     replace RV := Lib.hid (RV.out.on hbcqppq5)
     have OC := Lib.hid o3.owns.lt
     clear o3
     refine but_run (i := 13) (by kernel_rfl) rfl (by rfl) ?_
     simp only [zA, zB, zC]
     intro K HK
     refine operAppVol _ (by rfl) (.tmp 13) (.tmp 15) (by rfl) Vcqpp3.heap.size _ [] (by rfl) RV.out A4 d.vo.length c4 d.vo (by rfl) rfl (HV.out.on hScqppq5) (by simp; omega) (by omega) ?_
     intro vcqppq6 Vcqppq6 ocqppq6 bcqppq6 gcqppq6 acqppq6
     rw [List.nil_append] at ocqppq6
     obtain ⟨B4, e4, rfl, _, _⟩ := ocqppq6.shape
     have hScqppq6 : (fun V => Below wb.heap.size wb V) Vcqppq6 := (hScqppq5).trans (Below.mono bcqppq6 (by omega))
     refine HK.out _ _ (fun _ => hScqppq6) ?_
     clear HK
     have hzcqppq6 := bcqppq6.size
     replace Q1 := Lib.hid (box_only Q1.out gcqppq6 (fun e => by simp [Value.ownBlock] at e; omega))
     replace OT := Lib.hid (OT.out.far gcqppq6 (fun b hb _ e => by simp [Value.ownBlock] at e; first | omega | (simp [Value.ownBlock] at hb; omega)))
     replace OA := Lib.hid (OA.out.far gcqppq6 (fun b hb _ e => by simp [Value.ownBlock] at e; first | omega | (simp [Value.ownBlock] at hb; omega)))
     replace OC := Lib.hid (OC.out.far gcqppq6 (fun b hb _ e => by simp [Value.ownBlock] at e; first | omega | (simp [Value.ownBlock] at hb; omega)))
     have OV := Lib.hid (ocqppq6.ownT (fun b => b = Vcqpp3.heap.size ∨ b = Vcqppq5.heap.size) (own_at acqppq6)).lt
     clear ocqppq6 acqppq6
     simp only [zA, zB, zC, Act.put, zD, zE, zF]
     refine bt (f := 17) (i := 16) (v := ?vcqppq16) rfl (Or.inl ⟨(by rfl), ?hycqppq16⟩) hScqppq6 ?restcqppq16
     case hycqppq16 => intro W hW; go_simp; exact rfl
     simp only [zA, zB, zC, Act.put, zD, zE, zF]
     refine but_run (i := 17) (by kernel_rfl) rfl (by rfl) ?_
     simp only [zA, zB, zC]
     intro K HK
     obtain ⟨z0, z1, z2, z3, z4, z5, z6⟩ := boxP Q1.out
     go_wp2_with fail
     refine HK.out _ _ (fun h => absurd rfl h) ?_
     clear HK
     refine but_done (by kernel_rfl) ?_
     go_wp2
     refine bodyPost_ret (v := .agg #[.slice B0 d.lo.length e0, .slice B1 d.ts.length e1, .slice B2 d.ag.length e2, .slice B3 d.ce.length e3, .slice B4 d.vo.length e4, .int .i64 d.nx]) (by simp [results, Tryz.results61, go_sem, z0, z1, z2, z3, z4, z5, z6]) rfl ⟨_, _, _, _, _, rfl, ?_, below_set6 (bstep HB.out hScqppq6) (by omega)⟩
     have hP : PoolC 110 Vcqppq6 (fun b => wb.heap.size ≤ b) (.slice B0 d.lo.length e0) (.slice B1 d.ts.length e1) (.slice B2 d.ag.length e2) (.slice B3 d.ce.length e3) (.slice B4 d.vo.length e4) d :=
      ⟨fun b => Vncq1.heap.size ≤ b ∧ b < Vcqp2.heap.size,
       fun b => (b = Udc.heap.size ∨ b = Vcqp2.heap.size) ∧ b < Vcqpp3.heap.size,
       fun b => Vncqppq4.heap.size ≤ b ∧ b < Vcqppq5.heap.size,
       fun b => (b = Vcqpp3.heap.size ∨ b = Vcqppq5.heap.size) ∧ b < Vcqppq6.heap.size, by intro b hb; omega, by intro b hb; omega, by intro b hb; omega, by intro b hb; omega, by intro b hb; refine ⟨?_, ?_, ?_⟩ <;> (intro h; omega), by intro b hb; refine ⟨?_, ?_⟩ <;> (intro h; omega), by intro b hb h; omega, OT.out, OA.out, OC.out, OV.out⟩
     exact (hP.set6 (p := w.heap.size + 1) (fun h => by omega)).mono (fun b hb => by omega)
   ·simp only [zA, zB, zC]
    intro K HK
    go_wp2_with fail
    have hScqpq3 : (fun V => Below wb.heap.size wb V) (Vcqp2.alloc (.cells #[] 41)) := bstep hScqp2 (bal1 _ _)
    refine HK.out _ _ (fun _ => hScqpq3) ?_
    clear HK
    have hBcqpq3 := bal1 Vcqp2 (.cells #[] 41)
    have hzcqpq3 : Vcqp2.heap.size + 1 ≤ (Vcqp2.alloc (.cells #[] 41)).heap.size := by simp
    replace Q1 := Lib.hid (box_on Q1.out hBcqpq3)
    replace RA := Lib.hid (RA.out.on hBcqpq3)
    replace OT := Lib.hid (OT.out.on hBcqpq3)
    have hzacqpq3 := (hScqp2).size
    have RV := Lib.hid (RowVol.lit Vcqp2)
    generalize Vcqp2.alloc (.cells #[] 41) = Vncqpq3 at *
    refine but_run (i := 6) (by kernel_rfl) rfl (by rfl) ?_
    simp only [zA, zB, zC]
    intro K HK
    refine operAppG _ (by rfl) (.tmp 6) (.tmp 8) (by rfl) Udc.heap.size _ [] (by rfl) RA.out A2 d.ag.length c2 d.ag (by rfl) rfl (HG.out.on hScqpq3) (by simp; omega) (by omega) ?_
    intro vcqpq4 Vcqpq4 ocqpq4 bcqpq4 gcqpq4 acqpq4
    rw [List.nil_append] at ocqpq4
    obtain ⟨B2, e2, rfl, _, _⟩ := ocqpq4.shape
    have hScqpq4 : (fun V => Below wb.heap.size wb V) Vcqpq4 := (hScqpq3).trans (Below.mono bcqpq4 (by omega))
    refine HK.out _ _ (fun _ => hScqpq4) ?_
    clear HK
    have hzcqpq4 := bcqpq4.size
    replace Q1 := Lib.hid (box_only Q1.out gcqpq4 (fun e => by simp [Value.ownBlock] at e; omega))
    replace OT := Lib.hid (OT.out.far gcqpq4 (fun b hb _ e => by simp [Value.ownBlock] at e; first | omega | (simp [Value.ownBlock] at hb; omega)))
    replace RV := Lib.hid (RV.out.far gcqpq4 (fun b hb _ e => by simp [Value.ownBlock] at e; first | omega | (simp [Value.ownBlock] at hb; omega)))
    have OA := Lib.hid (ocqpq4.ownT (fun b => b = Udc.heap.size ∨ b = Vncqpq3.heap.size) (own_at acqpq4)).lt
    clear ocqpq4 acqpq4
    simp only [zA, zB, zC, Act.put, zD, zE, zF]
    refine but_run (i := 9) (by kernel_rfl) rfl (by rfl) ?_
    simp only [zA, zB, zC]
    intro K HK
    go_wp2_with fail
    refine (HC.out _ (bstep HB.out hScqpq4)).mono ?_
    rintro r Vcqpq5 ⟨vc1, rfl, o3, hbcqpq5⟩
    obtain ⟨B3, e3, rfl, _, _⟩ := o3.shape
    go_wp2_with fail
    have hScqpq5 : (fun V => Below wb.heap.size wb V) Vcqpq5 := bstep hScqpq4 hbcqpq5
    refine HK.out _ _ (fun _ => hScqpq5) ?_
    clear HK
    have hzcqpq5 := hbcqpq5.size
    replace Q1 := Lib.hid (box_on Q1.out hbcqpq5)
    replace OT := Lib.hid (OT.out.on hbcqpq5)
    replace RV := Lib.hid (RV.out.on hbcqpq5)
    replace OA := Lib.hid (OA.out.on hbcqpq5)
    have OC := Lib.hid o3.owns.lt
    clear o3
    refine but_run (i := 13) (by kernel_rfl) rfl (by rfl) ?_
    simp only [zA, zB, zC]
    intro K HK
    refine operAppVol _ (by rfl) (.tmp 13) (.tmp 15) (by rfl) Vcqp2.heap.size _ [] (by rfl) RV.out A4 d.vo.length c4 d.vo (by rfl) rfl (HV.out.on hScqpq5) (by simp; omega) (by omega) ?_
    intro vcqpq6 Vcqpq6 ocqpq6 bcqpq6 gcqpq6 acqpq6
    rw [List.nil_append] at ocqpq6
    obtain ⟨B4, e4, rfl, _, _⟩ := ocqpq6.shape
    have hScqpq6 : (fun V => Below wb.heap.size wb V) Vcqpq6 := (hScqpq5).trans (Below.mono bcqpq6 (by omega))
    refine HK.out _ _ (fun _ => hScqpq6) ?_
    clear HK
    have hzcqpq6 := bcqpq6.size
    replace Q1 := Lib.hid (box_only Q1.out gcqpq6 (fun e => by simp [Value.ownBlock] at e; omega))
    replace OT := Lib.hid (OT.out.far gcqpq6 (fun b hb _ e => by simp [Value.ownBlock] at e; first | omega | (simp [Value.ownBlock] at hb; omega)))
    replace OA := Lib.hid (OA.out.far gcqpq6 (fun b hb _ e => by simp [Value.ownBlock] at e; first | omega | (simp [Value.ownBlock] at hb; omega)))
    replace OC := Lib.hid (OC.out.far gcqpq6 (fun b hb _ e => by simp [Value.ownBlock] at e; first | omega | (simp [Value.ownBlock] at hb; omega)))
    have OV := Lib.hid (ocqpq6.ownT (fun b => b = Vcqp2.heap.size ∨ b = Vcqpq5.heap.size) (own_at acqpq6)).lt
    clear ocqpq6 acqpq6
    simp only [zA, zB, zC, Act.put, zD, zE, zF]
    refine bt (f := 17) (i := 16) (v := ?vcqpq16) rfl (Or.inl ⟨(by rfl), ?hycqpq16⟩) hScqpq6 ?restcqpq16
    case hycqpq16 => intro W hW; go_simp; exact rfl
    simp only [zA, zB, zC, Act.put, zD, zE, zF]
    refine but_run (i := 17) (by kernel_rfl) rfl (by rfl) ?_
    simp only [zA, zB, zC]
    intro K HK
    obtain ⟨z0, z1, z2, z3, z4, z5, z6⟩ := boxP Q1.out
    go_wp2_with fail
    refine HK.out _ _ (fun h => absurd rfl h) ?_
    clear HK
    refine but_done (by kernel_rfl) ?_
    go_wp2
    refine bodyPost_ret (v := .agg #[.slice B0 d.lo.length e0, .slice B1 d.ts.length e1, .slice B2 d.ag.length e2, .slice B3 d.ce.length e3, .slice B4 d.vo.length e4, .int .i64 d.nx]) (by simp [results, Tryz.results61, go_sem, z0, z1, z2, z3, z4, z5, z6]) rfl ⟨_, _, _, _, _, rfl, ?_, below_set6 (bstep HB.out hScqpq6) (by omega)⟩
    have hP : PoolC 110 Vcqpq6 (fun b => wb.heap.size ≤ b) (.slice B0 d.lo.length e0) (.slice B1 d.ts.length e1) (.slice B2 d.ag.length e2) (.slice B3 d.ce.length e3) (.slice B4 d.vo.length e4) d :=
     ⟨fun b => Vncq1.heap.size ≤ b ∧ b < Vcqp2.heap.size,
      fun b => (b = Udc.heap.size ∨ b = Vncqpq3.heap.size) ∧ b < Vcqpq4.heap.size,
      fun b => Vcqpq4.heap.size ≤ b ∧ b < Vcqpq5.heap.size,
      fun b => (b = Vcqp2.heap.size ∨ b = Vcqpq5.heap.size) ∧ b < Vcqpq6.heap.size, by intro b hb; omega, by intro b hb; omega, by intro b hb; omega, by intro b hb; omega, by intro b hb; refine ⟨?_, ?_, ?_⟩ <;> (intro h; omega), by intro b hb; refine ⟨?_, ?_⟩ <;> (intro h; omega), by intro b hb h; omega, OT.out, OA.out, OC.out, OV.out⟩
    exact (hP.set6 (p := w.heap.size + 1) (fun h => by omega)).mono (fun b hb => by omega)
  ·simp only [zA, zB, zC]
   intro K HK
   go_wp2_with fail
   have hScqq2 : (fun V => Below wb.heap.size wb V) (Vncq1.alloc (.cells #[] 41)) := bstep hScq1 (bal1 _ _)
   refine HK.out _ _ (fun _ => hScqq2) ?_
   clear HK
   have hBcqq2 := bal1 Vncq1 (.cells #[] 41)
   have hzcqq2 : Vncq1.heap.size + 1 ≤ (Vncq1.alloc (.cells #[] 41)).heap.size := by simp
   replace Q1 := Lib.hid (box_on Q1.out hBcqq2)
   replace RA := Lib.hid (RA.out.on hBcqq2)
   have hzacqq2 := (hScq1).size
   have RV := Lib.hid (RowVol.lit Vncq1)
   generalize Vncq1.alloc (.cells #[] 41) = Vncqq2 at *
   refine but_run (i := 2) (by kernel_rfl) rfl (by rfl) ?_
   simp only [zA, zB, zC]
   intro K HK
   go_wp2_with fail
   refine (HT.out _ (bstep HB.out hScqq2)).mono ?_
   rintro r Vcqq3 ⟨vl1, vn1, rfl, o1, hbcqq3⟩
   obtain ⟨B0, e0, B1, e1, rfl, rfl⟩ := o1.reads.shape
   go_wp2_with fail
   have hScqq3 : (fun V => Below wb.heap.size wb V) Vcqq3 := bstep hScqq2 hbcqq3
   refine HK.out _ _ (fun _ => hScqq3) ?_
   clear HK
   have hzcqq3 := hbcqq3.size
   replace Q1 := Lib.hid (box_on Q1.out hbcqq3)
   replace RA := Lib.hid (RA.out.on hbcqq3)
   replace RV := Lib.hid (RV.out.on hbcqq3)
   have OT := Lib.hid o1.lt.c
   clear o1
   refine but_run (i := 6) (by kernel_rfl) rfl (by rfl) ?_
   simp only [zA, zB, zC]
   intro K HK
   refine operAppG _ (by rfl) (.tmp 6) (.tmp 8) (by rfl) Udc.heap.size _ [] (by rfl) RA.out A2 d.ag.length c2 d.ag (by rfl) rfl (HG.out.on hScqq3) (by simp; omega) (by omega) ?_
   intro vcqq4 Vcqq4 ocqq4 bcqq4 gcqq4 acqq4
   rw [List.nil_append] at ocqq4
   obtain ⟨B2, e2, rfl, _, _⟩ := ocqq4.shape
   have hScqq4 : (fun V => Below wb.heap.size wb V) Vcqq4 := (hScqq3).trans (Below.mono bcqq4 (by omega))
   refine HK.out _ _ (fun _ => hScqq4) ?_
   clear HK
   have hzcqq4 := bcqq4.size
   replace Q1 := Lib.hid (box_only Q1.out gcqq4 (fun e => by simp [Value.ownBlock] at e; omega))
   replace RV := Lib.hid (RV.out.far gcqq4 (fun b hb _ e => by simp [Value.ownBlock] at e; first | omega | (simp [Value.ownBlock] at hb; omega)))
   replace OT := Lib.hid (OT.out.far gcqq4 (fun b hb _ e => by simp [Value.ownBlock] at e; first | omega | (simp [Value.ownBlock] at hb; omega)))
   have OA := Lib.hid (ocqq4.ownT (fun b => b = Udc.heap.size ∨ b = Vcqq3.heap.size) (own_at acqq4)).lt
   clear ocqq4 acqq4
   simp only [zA, zB, zC, Act.put, zD, zE, zF]
   refine but_run (i := 9) (by kernel_rfl) rfl (by rfl) ?_
   simp only [zA, zB, zC]
   intro K HK
   go_wp2_with fail
   refine (HC.out _ (bstep HB.out hScqq4)).mono ?_
   rintro r Vcqq5 ⟨vc1, rfl, o3, hbcqq5⟩
   obtain ⟨B3, e3, rfl, _, _⟩ := o3.shape
   go_wp2_with fail
   have hScqq5 : (fun V => Below wb.heap.size wb V) Vcqq5 := bstep hScqq4 hbcqq5
   refine HK.out _ _ (fun _ => hScqq5) ?_
   clear HK
   have hzcqq5 := hbcqq5.size
   replace Q1 := Lib.hid (box_on Q1.out hbcqq5)
   replace RV := Lib.hid (RV.out.on hbcqq5)
   replace OT := Lib.hid (OT.out.on hbcqq5)
   replace OA := Lib.hid (OA.out.on hbcqq5)
   have OC := Lib.hid o3.owns.lt
   clear o3
   refine but_run (i := 13) (by kernel_rfl) rfl (by rfl) ?_
   simp only [zA, zB, zC]
   intro K HK
   refine operAppVol _ (by rfl) (.tmp 13) (.tmp 15) (by rfl) Vncq1.heap.size _ [] (by rfl) RV.out A4 d.vo.length c4 d.vo (by rfl) rfl (HV.out.on hScqq5) (by simp; omega) (by omega) ?_
   intro vcqq6 Vcqq6 ocqq6 bcqq6 gcqq6 acqq6
   rw [List.nil_append] at ocqq6
   obtain ⟨B4, e4, rfl, _, _⟩ := ocqq6.shape
   have hScqq6 : (fun V => Below wb.heap.size wb V) Vcqq6 := (hScqq5).trans (Below.mono bcqq6 (by omega))
   refine HK.out _ _ (fun _ => hScqq6) ?_
   clear HK
   have hzcqq6 := bcqq6.size
   replace Q1 := Lib.hid (box_only Q1.out gcqq6 (fun e => by simp [Value.ownBlock] at e; omega))
   replace OT := Lib.hid (OT.out.far gcqq6 (fun b hb _ e => by simp [Value.ownBlock] at e; first | omega | (simp [Value.ownBlock] at hb; omega)))
   replace OA := Lib.hid (OA.out.far gcqq6 (fun b hb _ e => by simp [Value.ownBlock] at e; first | omega | (simp [Value.ownBlock] at hb; omega)))
   replace OC := Lib.hid (OC.out.far gcqq6 (fun b hb _ e => by simp [Value.ownBlock] at e; first | omega | (simp [Value.ownBlock] at hb; omega)))
   have OV := Lib.hid (ocqq6.ownT (fun b => b = Vncq1.heap.size ∨ b = Vcqq5.heap.size) (own_at acqq6)).lt
   clear ocqq6 acqq6
   simp only [zA, zB, zC, Act.put, zD, zE, zF]
   refine bt (f := 17) (i := 16) (v := ?vcqq16) rfl (Or.inl ⟨(by rfl), ?hycqq16⟩) hScqq6 ?restcqq16
   case hycqq16 => intro W hW; go_simp; exact rfl
   simp only [zA, zB, zC, Act.put, zD, zE, zF]
   refine but_run (i := 17) (by kernel_rfl) rfl (by rfl) ?_
   simp only [zA, zB, zC]
   intro K HK
   obtain ⟨z0, z1, z2, z3, z4, z5, z6⟩ := boxP Q1.out
   go_wp2_with fail
   refine HK.out _ _ (fun h => absurd rfl h) ?_
   clear HK
   refine but_done (by kernel_rfl) ?_
   go_wp2
   refine bodyPost_ret (v := .agg #[.slice B0 d.lo.length e0, .slice B1 d.ts.length e1, .slice B2 d.ag.length e2, .slice B3 d.ce.length e3, .slice B4 d.vo.length e4, .int .i64 d.nx]) (by simp [results, Tryz.results61, go_sem, z0, z1, z2, z3, z4, z5, z6]) rfl ⟨_, _, _, _, _, rfl, ?_, below_set6 (bstep HB.out hScqq6) (by omega)⟩
   have hP : PoolC 110 Vcqq6 (fun b => wb.heap.size ≤ b) (.slice B0 d.lo.length e0) (.slice B1 d.ts.length e1) (.slice B2 d.ag.length e2) (.slice B3 d.ce.length e3) (.slice B4 d.vo.length e4) d :=
    ⟨fun b => Vncqq2.heap.size ≤ b ∧ b < Vcqq3.heap.size,
     fun b => (b = Udc.heap.size ∨ b = Vcqq3.heap.size) ∧ b < Vcqq4.heap.size,
     fun b => Vcqq4.heap.size ≤ b ∧ b < Vcqq5.heap.size,
     fun b => (b = Vncq1.heap.size ∨ b = Vcqq5.heap.size) ∧ b < Vcqq6.heap.size, by intro b hb; omega, by intro b hb; omega, by intro b hb; omega, by intro b hb; omega, by intro b hb; refine ⟨?_, ?_, ?_⟩ <;> (intro h; omega), by intro b hb; refine ⟨?_, ?_⟩ <;> (intro h; omega), by intro b hb h; omega, OT.out, OA.out, OC.out, OV.out⟩
   exact (hP.set6 (p := w.heap.size + 1) (fun h => by omega)).mono (fun b hb => by omega)
 ·simp only [zA, zB, zC]
  intro K HK
  go_wp2_with fail
  have hScr1 : (fun V => Below wb.heap.size wb V) (Udc.alloc (.cells #[] 41)) := bstep hS0c (bal1 _ _)
  refine HK.out _ _ (fun _ => hScr1) ?_
  clear HK
  have hBcr1 := bal1 Udc (.cells #[] 41)
  have hzcr1 : Udc.heap.size + 1 ≤ (Udc.alloc (.cells #[] 41)).heap.size := by simp
  replace Q1 := Lib.hid (box_on Q1.out hBcr1)
  have hzacr1 := (hS0c).size
  have RV := Lib.hid (RowVol.lit Udc)
  generalize Udc.alloc (.cells #[] 41) = Vncr1 at *
  refine but_two (i := 2) (j := 3) (by kernel_rfl) rfl rfl (by rfl) (by rfl) ?_ ?_
  ·simp only [zA, zB, zC]
   intro K HK
   go_wp2_with fail
   refine (HT.out _ (bstep HB.out hScr1)).mono ?_
   rintro r Vcrp2 ⟨vl1, vn1, rfl, o1, hbcrp2⟩
   obtain ⟨B0, e0, B1, e1, rfl, rfl⟩ := o1.reads.shape
   go_wp2_with fail
   have hScrp2 : (fun V => Below wb.heap.size wb V) Vcrp2 := bstep hScr1 hbcrp2
   refine HK.out _ _ (fun _ => hScrp2) ?_
   clear HK
   have hzcrp2 := hbcrp2.size
   replace Q1 := Lib.hid (box_on Q1.out hbcrp2)
   replace RV := Lib.hid (RV.out.on hbcrp2)
   have OT := Lib.hid o1.lt.c
   clear o1
   refine but_run (i := 3) (by kernel_rfl) rfl (by rfl) ?_
   simp only [zA, zB, zC]
   intro K HK
   go_wp2_with fail
   have hScrp3 : (fun V => Below wb.heap.size wb V) (Vcrp2.alloc (.cells #[] 155)) := bstep hScrp2 (bal1 _ _)
   refine HK.out _ _ (fun _ => hScrp3) ?_
   clear HK
   have hBcrp3 := bal1 Vcrp2 (.cells #[] 155)
   have hzcrp3 : Vcrp2.heap.size + 1 ≤ (Vcrp2.alloc (.cells #[] 155)).heap.size := by simp
   replace Q1 := Lib.hid (box_on Q1.out hBcrp3)
   replace RV := Lib.hid (RV.out.on hBcrp3)
   replace OT := Lib.hid (OT.out.on hBcrp3)
   have hzacrp3 := (hScrp2).size
   have RA := Lib.hid (show RowG (Vcrp2.alloc (.cells #[] 155)) Vcrp2.heap.size (.slice (some ⟨Vcrp2.heap.size, 0, none⟩) 0 0) [] from row_lit Vcrp2 155 2)
   generalize Vcrp2.alloc (.cells #[] 155) = Vncrp3 at *
   refine but_run (i := 6) (by kernel_rfl) rfl (by rfl) ?_
   simp only [zA, zB, zC]
   intro K HK
   refine operAppG _ (by rfl) (.tmp 6) (.tmp 8) (by rfl) Vcrp2.heap.size _ [] (by rfl) RA.out A2 d.ag.length c2 d.ag (by rfl) rfl (HG.out.on hScrp3) (by simp; omega) (by omega) ?_
   intro vcrp4 Vcrp4 ocrp4 bcrp4 gcrp4 acrp4
   rw [List.nil_append] at ocrp4
   obtain ⟨B2, e2, rfl, _, _⟩ := ocrp4.shape
   have hScrp4 : (fun V => Below wb.heap.size wb V) Vcrp4 := (hScrp3).trans (Below.mono bcrp4 (by omega))
   refine HK.out _ _ (fun _ => hScrp4) ?_
   clear HK
   have hzcrp4 := bcrp4.size
   replace Q1 := Lib.hid (box_only Q1.out gcrp4 (fun e => by simp [Value.ownBlock] at e; omega))
   replace RV := Lib.hid (RV.out.far gcrp4 (fun b hb _ e => by simp [Value.ownBlock] at e; first | omega | (simp [Value.ownBlock] at hb; omega)))
   replace OT := Lib.hid (OT.out.far gcrp4 (fun b hb _ e => by simp [Value.ownBlock] at e; first | omega | (simp [Value.ownBlock] at hb; omega)))
   have OA := Lib.hid (ocrp4.ownT (fun b => b = Vcrp2.heap.size ∨ b = Vncrp3.heap.size) (own_at acrp4)).lt
   clear ocrp4 acrp4
   simp only [zA, zB, zC, Act.put, zD, zE, zF]
   refine but_run (i := 9) (by kernel_rfl) rfl (by rfl) ?_
   simp only [zA, zB, zC]
   intro K HK
   go_wp2_with fail
   refine (HC.out _ (bstep HB.out hScrp4)).mono ?_
   rintro r Vcrp5 ⟨vc1, rfl, o3, hbcrp5⟩
   obtain ⟨B3, e3, rfl, _, _⟩ := o3.shape
   go_wp2_with fail
   have hScrp5 : (fun V => Below wb.heap.size wb V) Vcrp5 := bstep hScrp4 hbcrp5
   refine HK.out _ _ (fun _ => hScrp5) ?_
   clear HK
   have hzcrp5 := hbcrp5.size
   replace Q1 := Lib.hid (box_on Q1.out hbcrp5)
   replace RV := Lib.hid (RV.out.on hbcrp5)
   replace OT := Lib.hid (OT.out.on hbcrp5)
   replace OA := Lib.hid (OA.out.on hbcrp5)
   have OC := Lib.hid o3.owns.lt
   clear o3
   refine but_run (i := 13) (by kernel_rfl) rfl (by rfl) ?_
   simp only [zA, zB, zC]
   intro K HK
   refine operAppVol _ (by rfl) (.tmp 13) (.tmp 15) (by rfl) Udc.heap.size _ [] (by rfl) RV.out A4 d.vo.length c4 d.vo (by rfl) rfl (HV.out.on hScrp5) (by simp; omega) (by omega) ?_
   intro vcrp6 Vcrp6 ocrp6 bcrp6 gcrp6 acrp6
   rw [List.nil_append] at ocrp6
   obtain ⟨B4, e4, rfl, _, _⟩ := ocrp6.shape
   have hScrp6 : (fun V => Below wb.heap.size wb V) Vcrp6 := (hScrp5).trans (Below.mono bcrp6 (by omega))
   refine HK.out _ _ (fun _ => hScrp6) ?_
   clear HK
   have hzcrp6 := bcrp6.size
   replace Q1 := Lib.hid (box_only Q1.out gcrp6 (fun e => by simp [Value.ownBlock] at e; omega))
   replace OT := Lib.hid (OT.out.far gcrp6 (fun b hb _ e => by simp [Value.ownBlock] at e; first | omega | (simp [Value.ownBlock] at hb; omega)))
   replace OA := Lib.hid (OA.out.far gcrp6 (fun b hb _ e => by simp [Value.ownBlock] at e; first | omega | (simp [Value.ownBlock] at hb; omega)))
   replace OC := Lib.hid (OC.out.far gcrp6 (fun b hb _ e => by simp [Value.ownBlock] at e; first | omega | (simp [Value.ownBlock] at hb; omega)))
   have OV := Lib.hid (ocrp6.ownT (fun b => b = Udc.heap.size ∨ b = Vcrp5.heap.size) (own_at acrp6)).lt
   clear ocrp6 acrp6
   simp only [zA, zB, zC, Act.put, zD, zE, zF]
   refine bt (f := 17) (i := 16) (v := ?vcrp16) rfl (Or.inl ⟨(by rfl), ?hycrp16⟩) hScrp6 ?restcrp16
   case hycrp16 => intro W hW; go_simp; exact rfl
   simp only [zA, zB, zC, Act.put, zD, zE, zF]
   refine but_run (i := 17) (by kernel_rfl) rfl (by rfl) ?_
   simp only [zA, zB, zC]
   intro K HK
   obtain ⟨z0, z1, z2, z3, z4, z5, z6⟩ := boxP Q1.out
   go_wp2_with fail
   refine HK.out _ _ (fun h => absurd rfl h) ?_
   clear HK
   refine but_done (by kernel_rfl) ?_
   go_wp2
   refine bodyPost_ret (v := .agg #[.slice B0 d.lo.length e0, .slice B1 d.ts.length e1, .slice B2 d.ag.length e2, .slice B3 d.ce.length e3, .slice B4 d.vo.length e4, .int .i64 d.nx]) (by simp [results, Tryz.results61, go_sem, z0, z1, z2, z3, z4, z5, z6]) rfl ⟨_, _, _, _, _, rfl, ?_, below_set6 (bstep HB.out hScrp6) (by omega)⟩
   have hP : PoolC 110 Vcrp6 (fun b => wb.heap.size ≤ b) (.slice B0 d.lo.length e0) (.slice B1 d.ts.length e1) (.slice B2 d.ag.length e2) (.slice B3 d.ce.length e3) (.slice B4 d.vo.length e4) d :=
    ⟨fun b => Vncr1.heap.size ≤ b ∧ b < Vcrp2.heap.size,
     fun b => (b = Vcrp2.heap.size ∨ b = Vncrp3.heap.size) ∧ b < Vcrp4.heap.size,
     fun b => Vcrp4.heap.size ≤ b ∧ b < Vcrp5.heap.size,
     fun b => (b = Udc.heap.size ∨ b = Vcrp5.heap.size) ∧ b < Vcrp6.heap.size, by intro b hb; omega, by intro b hb; omega, by intro b hb; omega, by intro b hb; omega, by intro b hb; refine ⟨?_, ?_, ?_⟩ <;> (intro h; omega), by intro b hb; refine ⟨?_, ?_⟩ <;> (intro h; omega), by intro b hb h; omega, OT.out, OA.out, OC.out, OV.out⟩
   exact (hP.set6 (p := w.heap.size + 1) (fun h => by omega)).mono (fun b hb => by omega)
  ·simp only [zA, zB, zC]
   intro K HK
   go_wp2_with fail
   have hScrq2 : (fun V => Below wb.heap.size wb V) (Vncr1.alloc (.cells #[] 155)) := bstep hScr1 (bal1 _ _)
   refine HK.out _ _ (fun _ => hScrq2) ?_
   clear HK
   have hBcrq2 := bal1 Vncr1 (.cells #[] 155)
   have hzcrq2 : Vncr1.heap.size + 1 ≤ (Vncr1.alloc (.cells #[] 155)).heap.size := by simp
   replace Q1 := Lib.hid (box_on Q1.out hBcrq2)
   replace RV := Lib.hid (RV.out.on hBcrq2)
   have hzacrq2 := (hScr1).size
   have RA := Lib.hid (show RowG (Vncr1.alloc (.cells #[] 155)) Vncr1.heap.size (.slice (some ⟨Vncr1.heap.size, 0, none⟩) 0 0) [] from row_lit Vncr1 155 2)
   generalize Vncr1.alloc (.cells #[] 155) = Vncrq2 at *
   refine but_run (i := 2) (by kernel_rfl) rfl (by rfl) ?_
   simp only [zA, zB, zC]
   intro K HK
   go_wp2_with fail
   refine (HT.out _ (bstep HB.out hScrq2)).mono ?_
   rintro r Vcrq3 ⟨vl1, vn1, rfl, o1, hbcrq3⟩
   obtain ⟨B0, e0, B1, e1, rfl, rfl⟩ := o1.reads.shape
   go_wp2_with fail
   have hScrq3 : (fun V => Below wb.heap.size wb V) Vcrq3 := bstep hScrq2 hbcrq3
   refine HK.out _ _ (fun _ => hScrq3) ?_
   clear HK
   have hzcrq3 := hbcrq3.size
   replace Q1 := Lib.hid (box_on Q1.out hbcrq3)
   replace RV := Lib.hid (RV.out.on hbcrq3)
   replace RA := Lib.hid (RA.out.on hbcrq3)
   have OT := Lib.hid o1.lt.c
   clear o1
   refine but_run (i := 6) (by kernel_rfl) rfl (by rfl) ?_
   simp only [zA, zB, zC]
   intro K HK
   refine operAppG _ (by rfl) (.tmp 6) (.tmp 8) (by rfl) Vncr1.heap.size _ [] (by rfl) RA.out A2 d.ag.length c2 d.ag (by rfl) rfl (HG.out.on hScrq3) (by simp; omega) (by omega) ?_
   intro vcrq4 Vcrq4 ocrq4 bcrq4 gcrq4 acrq4
   rw [List.nil_append] at ocrq4
   obtain ⟨B2, e2, rfl, _, _⟩ := ocrq4.shape
   have hScrq4 : (fun V => Below wb.heap.size wb V) Vcrq4 := (hScrq3).trans (Below.mono bcrq4 (by omega))
   refine HK.out _ _ (fun _ => hScrq4) ?_
   clear HK
   have hzcrq4 := bcrq4.size
   replace Q1 := Lib.hid (box_only Q1.out gcrq4 (fun e => by simp [Value.ownBlock] at e; omega))
   replace RV := Lib.hid (RV.out.far gcrq4 (fun b hb _ e => by simp [Value.ownBlock] at e; first | omega | (simp [Value.ownBlock] at hb; omega)))
   replace OT := Lib.hid (OT.out.far gcrq4 (fun b hb _ e => by simp [Value.ownBlock] at e; first | omega | (simp [Value.ownBlock] at hb; omega)))
   have OA := Lib.hid (ocrq4.ownT (fun b => b = Vncr1.heap.size ∨ b = Vcrq3.heap.size) (own_at acrq4)).lt
   clear ocrq4 acrq4
   simp only [zA, zB, zC, Act.put, zD, zE, zF]
   refine but_run (i := 9) (by kernel_rfl) rfl (by rfl) ?_
   simp only [zA, zB, zC]
   intro K HK
   go_wp2_with fail
   refine (HC.out _ (bstep HB.out hScrq4)).mono ?_
   rintro r Vcrq5 ⟨vc1, rfl, o3, hbcrq5⟩
   obtain ⟨B3, e3, rfl, _, _⟩ := o3.shape
   go_wp2_with fail
   have hScrq5 : (fun V => Below wb.heap.size wb V) Vcrq5 := bstep hScrq4 hbcrq5
   refine HK.out _ _ (fun _ => hScrq5) ?_
   clear HK
   have hzcrq5 := hbcrq5.size
   replace Q1 := Lib.hid (box_on Q1.out hbcrq5)
   replace RV := Lib.hid (RV.out.on hbcrq5)
   replace OT := Lib.hid (OT.out.on hbcrq5)
   replace OA := Lib.hid (OA.out.on hbcrq5)
   have OC := Lib.hid o3.owns.lt
   clear o3
   refine but_run (i := 13) (by kernel_rfl) rfl (by rfl) ?_
   simp only [zA, zB, zC]
   intro K HK
   refine operAppVol _ (by rfl) (.tmp 13) (.tmp 15) (by rfl) Udc.heap.size _ [] (by rfl) RV.out A4 d.vo.length c4 d.vo (by rfl) rfl (HV.out.on hScrq5) (by simp; omega) (by omega) ?_
   intro vcrq6 Vcrq6 ocrq6 bcrq6 gcrq6 acrq6
   rw [List.nil_append] at ocrq6
   obtain ⟨B4, e4, rfl, _, _⟩ := ocrq6.shape
   have hScrq6 : (fun V => Below wb.heap.size wb V) Vcrq6 := (hScrq5).trans (Below.mono bcrq6 (by omega))
   refine HK.out _ _ (fun _ => hScrq6) ?_
   clear HK
   have hzcrq6 := bcrq6.size
   replace Q1 := Lib.hid (box_only Q1.out gcrq6 (fun e => by simp [Value.ownBlock] at e; omega))
   replace OT := Lib.hid (OT.out.far gcrq6 (fun b hb _ e => by simp [Value.ownBlock] at e; first | omega | (simp [Value.ownBlock] at hb; omega)))
   replace OA := Lib.hid (OA.out.far gcrq6 (fun b hb _ e => by simp [Value.ownBlock] at e; first | omega | (simp [Value.ownBlock] at hb; omega)))
   replace OC := Lib.hid (OC.out.far gcrq6 (fun b hb _ e => by simp [Value.ownBlock] at e; first | omega | (simp [Value.ownBlock] at hb; omega)))
   have OV := Lib.hid (ocrq6.ownT (fun b => b = Udc.heap.size ∨ b = Vcrq5.heap.size) (own_at acrq6)).lt
   clear ocrq6 acrq6
   simp only [zA, zB, zC, Act.put, zD, zE, zF]
   refine bt (f := 17) (i := 16) (v := ?vcrq16) rfl (Or.inl ⟨(by rfl), ?hycrq16⟩) hScrq6 ?restcrq16
   case hycrq16 => intro W hW; go_simp; exact rfl
   simp only [zA, zB, zC, Act.put, zD, zE, zF]
   refine but_run (i := 17) (by kernel_rfl) rfl (by rfl) ?_
   simp only [zA, zB, zC]
   intro K HK
   obtain ⟨z0, z1, z2, z3, z4, z5, z6⟩ := boxP Q1.out
   go_wp2_with fail
   refine HK.out _ _ (fun h => absurd rfl h) ?_
   clear HK
   refine but_done (by kernel_rfl) ?_
   go_wp2
   refine bodyPost_ret (v := .agg #[.slice B0 d.lo.length e0, .slice B1 d.ts.length e1, .slice B2 d.ag.length e2, .slice B3 d.ce.length e3, .slice B4 d.vo.length e4, .int .i64 d.nx]) (by simp [results, Tryz.results61, go_sem, z0, z1, z2, z3, z4, z5, z6]) rfl ⟨_, _, _, _, _, rfl, ?_, below_set6 (bstep HB.out hScrq6) (by omega)⟩
   have hP : PoolC 110 Vcrq6 (fun b => wb.heap.size ≤ b) (.slice B0 d.lo.length e0) (.slice B1 d.ts.length e1) (.slice B2 d.ag.length e2) (.slice B3 d.ce.length e3) (.slice B4 d.vo.length e4) d :=
    ⟨fun b => Vncrq2.heap.size ≤ b ∧ b < Vcrq3.heap.size,
     fun b => (b = Vncr1.heap.size ∨ b = Vcrq3.heap.size) ∧ b < Vcrq4.heap.size,
     fun b => Vcrq4.heap.size ≤ b ∧ b < Vcrq5.heap.size,
     fun b => (b = Udc.heap.size ∨ b = Vcrq5.heap.size) ∧ b < Vcrq6.heap.size, by intro b hb; omega, by intro b hb; omega, by intro b hb; omega, by intro b hb; omega, by intro b hb; refine ⟨?_, ?_, ?_⟩ <;> (intro h; omega), by intro b hb; refine ⟨?_, ?_⟩ <;> (intro h; omega), by intro b hb h; omega, OT.out, OA.out, OC.out, OV.out⟩
   exact (hP.set6 (p := w.heap.size + 1) (fun h => by omega)).mono (fun b hb => by omega)
end Go.Proofs.YtlhemcjahcmdeaaGreatDoor
namespace Go.Proofs.YtlhemcjahcmdeaaGreatDoor
open Go.RowKit
set_option maxRecDepth 100000
set_option linter.unusedSimpArgs false
set_option linter.unusedVariables false

def SaysN (w : World) (n : Int) (e : Ending) (w' : World) : Prop := e = .returned (.int .i64 n) ∧ Below w.heap.size w w'
def formN (d : PoolD) (s : ByteArray) : Int := if mayB d s then 0 else 1
set_option maxHeartbeats 1000000 in
theorem l11Form_any {t : TypeId} (vl vn va vc vv : Value) (d : PoolD) (s : ByteArray) (w : World) (h : RdP t w w.heap.size vl vn va vc vv d) (hs : SmallP d) (hnm : ∀ k ∈ d.vo, k.a.size ≤ maxLen) (hz : s.size ≤ maxLen) :
  Calls Tryz.prog 60 #[.agg #[vl, vn, va, vc, vv, .int .i64 d.nx], .string s] w (SaysN w (formN d s)) := by
 have HP := Lib.hid (fun W b => specPoolOk_any vl vn va vc vv d W (h.on b) hs hnm)
 have HN := Lib.hid (fun W => specNameOk_any s W hz)
 obtain ⟨A0, Ac0, A1, Ac1, A2, Ac2, A3, Ac3, A4, Ac4, rfl, rfl, rfl, rfl, rfl⟩ := h.shape
 have HB := Lib.hid (bal1 w (.cells #[.slice A0 d.lo.length Ac0, .slice A1 d.ts.length Ac1, .slice A2 d.ag.length Ac2, .slice A3 d.ce.length Ac3, .slice A4 d.vo.length Ac4, .int .i64 d.nx] 32))
 have Q0 := Lib.hid (al1 w (.cells #[.slice A0 d.lo.length Ac0, .slice A1 d.ts.length Ac1, .slice A2 d.ag.length Ac2, .slice A3 d.ce.length Ac3, .slice A4 d.vo.length Ac4, .int .i64 d.nx] 32))
 obtain ⟨p, hp⟩ : ∃ p, poolOkB d = p := ⟨_, rfl⟩
 obtain ⟨m, hm⟩ : ∃ m, nameOkB s = m := ⟨_, rfl⟩
 rw [hp] at HP
 rw [hm] at HN
 have HF := Lib.hid (show formN d s = if (p && m) then 0 else 1 by unfold formN mayB; rw [hp, hm])
 clear h hs hnm hz hp hm
 go_enter Tryz.func60, Tryz.ntmps60
 go_upto_region 1 with (fail)
 generalize w.alloc (.cells #[.slice A0 d.lo.length Ac0, .slice A1 d.ts.length Ac1, .slice A2 d.ag.length Ac2, .slice A3 d.ce.length Ac3, .slice A4 d.vo.length Ac4, .int .i64 d.nx] 32) = W at *
 obtain ⟨x0, x1, x2, x3, x4, x5, x6⟩ := boxP Q0.out
 go_wp2_with fail
 refine (HP.out _ HB.out).mono ?_
 rintro e w1 ⟨rfl, b1⟩
 have B1 := Lib.hid (bstep HB.out b1)
 clear x0 x1 x2 x3 x4 x5 x6 b1
 cases p
 ·go_wp2
  go_ret
  exact ⟨by rw [HF.out]; rfl, B1.out⟩
 ·go_wp2_with fail
  refine (HN.out _).mono ?_
  rintro e _ ⟨rfl, rfl⟩
  cases m
  all_goals
   go_wp2
   go_ret
   exact ⟨by rw [HF.out]; rfl, B1.out⟩
/-- A pool behind a change, if it is right, and its code. -/
def endD (d x : PoolD) (ok : Bool) : Res := if ok && poolOkB x then (x, 0) else (d, 6)
theorem end_yes {d x : PoolD} (h : poolOkB x = true) : endD d x true = (x, 0) := by unfold endD; rw [h]; rfl
theorem end_full {d x : PoolD} (h : poolOkB x = false) : endD d x true = (d, 6) := by unfold endD; rw [h]; rfl
/-- The call yields the pool in blocks of S or new ones, and a code. -/
def EndP (w : World) (S : Nat → Prop) (r : PoolD × Int) (e : Ending) (w' : World) : Prop := ∃ t vl vn va vc vv, e = .returned (.tuple #[.agg #[vl, vn, va, vc, vv, .int .i64 r.1.nx], .int .i64 r.2]) ∧ PoolC t w' (fun b => S b ∨ w.heap.size ≤ b) vl vn va vc vv r.1 ∧ Below w.heap.size w w'
set_option maxHeartbeats 2000000 in
theorem l11End_any {t t2 : TypeId} (vl vn va vc vv ul un ua uc uv : Value) (d x : PoolD) (ok : Bool) (S : Nat → Prop) (w : World) (h : RdP t w w.heap.size vl vn va vc vv d) (hs : SmallP d) (hx : PoolC t2 w S ul un ua uc uv x) (hk : ok = true → SmallP x ∧ ∀ k ∈ x.vo, k.a.size ≤ maxLen) :
  Calls Tryz.prog 66 #[.agg #[vl, vn, va, vc, vv, .int .i64 d.nx], .agg #[ul, un, ua, uc, uv, .int .i64 x.nx], .bool ok] w (EndP w S (endD d x ok)) := by
 have HC := Lib.hid (fun W b => l10Copy_any vl vn va vc vv d W (h.on b) hs)
 have HP := Lib.hid (fun (ho : ok = true) W b => specPoolOk_any ul un ua uc uv x W (hx.reads.on b) (hk ho).1 (hk ho).2)
 have HX := Lib.hid hx.lt
 obtain ⟨A0, Ac0, A1, Ac1, A2, Ac2, A3, Ac3, A4, Ac4, rfl, rfl, rfl, rfl, rfl⟩ := h.shape
 obtain ⟨X0, Xc0, X1, Xc1, X2, Xc2, X3, Xc3, X4, Xc4, rfl, rfl, rfl, rfl, rfl⟩ := hx.reads.shape
 obtain ⟨q0, q1, q2⟩ := al3 w (.cells #[.slice A0 d.lo.length Ac0, .slice A1 d.ts.length Ac1, .slice A2 d.ag.length Ac2, .slice A3 d.ce.length Ac3, .slice A4 d.vo.length Ac4, .int .i64 d.nx] 32) (.cells #[.slice X0 x.lo.length Xc0, .slice X1 x.ts.length Xc1, .slice X2 x.ag.length Xc2, .slice X3 x.ce.length Xc3, .slice X4 x.vo.length Xc4, .int .i64 x.nx] 32) (.cells #[.slice none 0 0, .slice none 0 0, .slice none 0 0, .slice none 0 0, .slice none 0 0, .int .i64 0] 32)
 have Q0 := Lib.hid q0
 have Q1 := Lib.hid q1
 have Q2 := Lib.hid q2
 have HB := Lib.hid (bal3 w (.cells #[.slice A0 d.lo.length Ac0, .slice A1 d.ts.length Ac1, .slice A2 d.ag.length Ac2, .slice A3 d.ce.length Ac3, .slice A4 d.vo.length Ac4, .int .i64 d.nx] 32) (.cells #[.slice X0 x.lo.length Xc0, .slice X1 x.ts.length Xc1, .slice X2 x.ag.length Xc2, .slice X3 x.ce.length Xc3, .slice X4 x.vo.length Xc4, .int .i64 x.nx] 32) (.cells #[.slice none 0 0, .slice none 0 0, .slice none 0 0, .slice none 0 0, .slice none 0 0, .int .i64 0] 32))
 have hwz : (((w.alloc (.cells #[.slice A0 d.lo.length Ac0, .slice A1 d.ts.length Ac1, .slice A2 d.ag.length Ac2, .slice A3 d.ce.length Ac3, .slice A4 d.vo.length Ac4, .int .i64 d.nx] 32)).alloc (.cells #[.slice X0 x.lo.length Xc0, .slice X1 x.ts.length Xc1, .slice X2 x.ag.length Xc2, .slice X3 x.ce.length Xc3, .slice X4 x.vo.length Xc4, .int .i64 x.nx] 32)).alloc (.cells #[.slice none 0 0, .slice none 0 0, .slice none 0 0, .slice none 0 0, .slice none 0 0, .int .i64 0] 32)).heap.size = w.heap.size + 3 := by simp
 obtain ⟨p, hp⟩ : ∃ p, poolOkB x = p := ⟨_, rfl⟩
 rw [hp] at HP
 have HPK := Lib.hid hp
 clear h hs hx hk hp q0 q1 q2
 go_enter Tryz.func66, Tryz.ntmps66
 go_upto_region 1 with (fail)
 generalize ((w.alloc (.cells #[.slice A0 d.lo.length Ac0, .slice A1 d.ts.length Ac1, .slice A2 d.ag.length Ac2, .slice A3 d.ce.length Ac3, .slice A4 d.vo.length Ac4, .int .i64 d.nx] 32)).alloc (.cells #[.slice X0 x.lo.length Xc0, .slice X1 x.ts.length Xc1, .slice X2 x.ag.length Xc2, .slice X3 x.ce.length Xc3, .slice X4 x.vo.length Xc4, .int .i64 x.nx] 32)).alloc (.cells #[.slice none 0 0, .slice none 0 0, .slice none 0 0, .slice none 0 0, .slice none 0 0, .int .i64 0] 32) = W at *
 have hy1 := Nat.le_of_eq hwz
 have hy2 := Nat.le_of_eq hwz.symm
 clear hwz
 cases ok
 ·obtain ⟨x0, x1, x2, x3, x4, x5, x6⟩ := boxP Q0.out
  go_wp2_with fail
  refine (HC.out _ HB.out).mono ?_
  rintro e w1 ⟨zl, zn, za, zc, zv, rfl, o1, b1⟩
  have hz1 := b1.size
  obtain ⟨E0, Ec0, E1, Ec1, E2, Ec2, E3, Ec3, E4, Ec4, rfl, rfl, rfl, rfl, rfl⟩ := o1.reads.shape
  have O1 := Lib.hid o1
  have B1 := Lib.hid (bstep HB.out b1)
  clear x0 x1 x2 x3 x4 x5 x6
  obtain ⟨y0, y1, y2, y3, y4, y5, y6⟩ := boxP (box_on Q2.out b1)
  clear o1 b1
  go_wp2
  refine bodyPost_ret (v := .tuple #[.agg #[.slice E0 d.lo.length Ec0, .slice E1 d.ts.length Ec1, .slice E2 d.ag.length Ec2, .slice E3 d.ce.length Ec3, .slice E4 d.vo.length Ec4, .int .i64 d.nx], .int .i64 6]) (by simp [results, Tryz.results66, go_sem, y0, y1, y2, y3, y4, y5, y6]) rfl ⟨110, _, _, _, _, _, rfl, ?_, below_set6 B1.out (by omega)⟩
  exact (O1.out.set6 (p := w.heap.size + 1 + 1) (fun h => by omega)).mono (fun b hb => .inr (by omega))
 ·obtain ⟨x0, x1, x2, x3, x4, x5, x6⟩ := boxP Q1.out
  go_wp2_with fail
  refine (HP.out (by first | rfl | trivial) _ HB.out).mono ?_
  rintro e w1 ⟨rfl, b1⟩
  have hz1 := b1.size
  have B1 := Lib.hid (bstep HB.out b1)
  have XX1 := Lib.hid (HX.out.on B1.out)
  have Q11 := Lib.hid (box_on Q1.out b1)
  have Q21 := Lib.hid (box_on Q2.out b1)
  have Q01 := Lib.hid (box_on Q0.out b1)
  clear x0 x1 x2 x3 x4 x5 x6 b1
  cases p
  ·obtain ⟨x0, x1, x2, x3, x4, x5, x6⟩ := boxP Q01.out
   rw [end_full HPK.out]
   go_wp2_with fail
   refine (HC.out _ B1.out).mono ?_
   rintro e w2 ⟨zl, zn, za, zc, zv, rfl, o1, b1⟩
   have hz2 := b1.size
   obtain ⟨E0, Ec0, E1, Ec1, E2, Ec2, E3, Ec3, E4, Ec4, rfl, rfl, rfl, rfl, rfl⟩ := o1.reads.shape
   have O1 := Lib.hid o1
   have B2 := Lib.hid (bstep B1.out b1)
   clear x0 x1 x2 x3 x4 x5 x6
   obtain ⟨y0, y1, y2, y3, y4, y5, y6⟩ := boxP (box_on Q21.out b1)
   clear o1 b1
   go_wp2
   rw [end_full HPK.out]
   refine bodyPost_ret (v := .tuple #[.agg #[.slice E0 d.lo.length Ec0, .slice E1 d.ts.length Ec1, .slice E2 d.ag.length Ec2, .slice E3 d.ce.length Ec3, .slice E4 d.vo.length Ec4, .int .i64 d.nx], .int .i64 6]) (by simp [results, Tryz.results66, go_sem, y0, y1, y2, y3, y4, y5, y6]) rfl ⟨110, _, _, _, _, _, rfl, ?_, below_set6 B2.out (by omega)⟩
   exact (O1.out.set6 (p := w.heap.size + 1 + 1) (fun h => by omega)).mono (fun b hb => .inr (by omega))
  ·obtain ⟨x0, x1, x2, x3, x4, x5, x6⟩ := boxP Q11.out
   obtain ⟨y0, y1, y2, y3, y4, y5, y6⟩ := boxP Q21.out
   go_wp2
   rw [end_yes HPK.out]
   refine bodyPost_ret (v := .tuple #[.agg #[.slice X0 x.lo.length Xc0, .slice X1 x.ts.length Xc1, .slice X2 x.ag.length Xc2, .slice X3 x.ce.length Xc3, .slice X4 x.vo.length Xc4, .int .i64 x.nx], .int .i64 0]) (by simp [results, Tryz.results66, go_sem, y0, y1, y2, y3, y4, y5, y6]) rfl ⟨t2, _, _, _, _, _, rfl, ?_, below_set6 B1.out (by omega)⟩
   exact (XX1.out.set6 (p := w.heap.size + 1 + 1) (fun h => by have := h.2; omega)).mono (fun b hb => .inl hb.1)
end Go.Proofs.YtlhemcjahcmdeaaGreatDoor
namespace Go.Proofs.YtlhemcjahcmdeaaGreatDoor
open Go.RowKit
set_option maxRecDepth 100000
set_option linter.unusedSimpArgs false
set_option linter.unusedVariables false

def cutA4 (A : Option Addr) (c j : Nat) : Option Addr := if c = j then A else A.map (fun a => a.add (j * 4))
theorem At.tailVol {w : World} {A : Option Addr} {l : List VolD} (h : At w A (volvl l)) {c j : Nat} (hc : l.length ≤ c) : At w (cutA4 A c j) (volvl (l.drop j)) := by
 unfold cutA4
 split
 ·rw [List.drop_eq_nil_of_le (by omega)]
  exact .inl rfl
 ·rcases h with h | ⟨b, off, rfl, hcell⟩
  ·have : l = [] := List.length_eq_zero_iff.1 (by have := congrArg List.length h; rw [volvl_len] at this; simp at this; omega)
   subst this
   exact .inl (by simp [volvl])
  ·by_cases hj : j ≤ l.length
   ·refine .inr ⟨b, off + j * 4, by rw [Option.map_some, Addr.add_lit], fun k hk => ?_⟩
    have he : volvl l = volvl (l.take j) ++ volvl (l.drop j) := by rw [← volvl_append, List.take_append_drop]
    have hl : (volvl (l.take j)).length = j * 4 := by rw [volvl_len]; simp; omega
    have h1 := hcell (j * 4 + k) (by rw [he, List.length_append]; omega)
    rw [Nat.add_assoc, h1]
    simp only [he]
    rw [List.getElem_append_right (by omega)]
    simp only [hl, Nat.add_sub_cancel_left]
   ·rw [List.drop_eq_nil_of_le (by omega)]
    exact .inl rfl
theorem change_end {d x : PoolD} {s : ByteArray} {f : PoolD → Res} (h : mayB d s = true) (hf : f d = (x, 0)) : changeK d s f = endD d x true := by
 have h2 := changeK_ok (f := f) h (by rw [hf])
 rw [hf] at h2
 cases hp : poolOkB x
 ·rw [h2.2 hp, end_full hp]
 ·rw [h2.1 hp, end_yes hp]
end Go.Proofs.YtlhemcjahcmdeaaGreatDoor
namespace Go.Proofs.YtlhemcjahcmdeaaGreatDoor
open Go.RowKit
set_option maxRecDepth 100000
set_option linter.unusedSimpArgs false
set_option linter.unusedVariables false

theorem set_behind {α : Type} (a b : List α) (j : Nat) (x : α) : (a ++ b).set (a.length + j) x = a ++ b.set j x := by
 rw [List.set_append_right _ _ (by omega), Nat.add_sub_cancel_left]
theorem vol_setV : ∀ (l : List VolD) (k : Nat) (x : VolD), k < l.length → volvl (l.set k x) = ((((volvl l).set (k * 4) (.string x.a)).set (k * 4 + 1) (.int .i64 x.b)).set (k * 4 + 2) (.int .i64 x.c)).set (k * 4 + 3) (.bool x.d) := by
 intro l
 induction l with
 |nil => intro k x hk; simp at hk
 |cons y l ih =>
  intro k x hk
  cases k with
  |zero => rw [List.set_cons_zero, volvl_cons, volvl_cons]; simp [volX]
  |succ k =>
   simp only [List.length_cons] at hk
   have h4 : (volX y).length = 4 := rfl
   rw [List.set_cons_succ, volvl_cons, volvl_cons, ih k x (by omega)]
   rw [show (k + 1) * 4 = (volX y).length + k * 4 by rw [h4]; omega, show (volX y).length + k * 4 + 1 = (volX y).length + (k * 4 + 1) by omega, show (volX y).length + k * 4 + 2 = (volX y).length + (k * 4 + 2) by omega, show (volX y).length + k * 4 + 3 = (volX y).length + (k * 4 + 3) by omega]
   rw [set_behind, set_behind, set_behind, set_behind]
theorem RowVol.setV {w : World} {base g cap k n : Nat} {l : List VolD} {x : VolD} (h : RowVol w base (.slice (some ⟨g, 0, none⟩) n cap) l) (hn : l.length = n) (hk : k < n) : RowVol ((((w.setCell ⟨g, k * 4, none⟩ (.string x.a)).setCell ⟨g, k * 4 + 1, none⟩ (.int .i64 x.b)).setCell ⟨g, k * 4 + 2, none⟩ (.int .i64 x.c)).setCell ⟨g, k * 4 + 3, none⟩ (.bool x.d)) base (.slice (some ⟨g, 0, none⟩) n cap) (l.set k x) := by
 subst hn
 show World.ownsRow _ base 41 4 _ (l.set k x).length _
 rw [List.length_set, vol_setV l k x hk]
 exact row_set (row_set (row_set (row_set (h : w.ownsRow _ _ _ _ _ _) _ _) _ _) _ _) _ _
theorem RowVol.cells {w : World} {base g cap n : Nat} {l : List VolD} (h : RowVol w base (.slice (some ⟨g, 0, none⟩) n cap) l) (hn : l.length = n) : g < w.heap.size ∧ base ≤ g ∧ n ≤ cap ∧ (∀ o, w.frozen? ⟨g, o, none⟩ = false) ∧ ∀ k (hk : k < l.length), VolF w g (k * 4) l[k] := by
 subst hn
 have h1 := h.lt g rfl
 refine ⟨h1.1, h1.2, ?_, ?_, fun k hk => ?_⟩
 ·obtain ⟨_, _, e, hc, _⟩ := h.shape
  cases e
  exact hc
 ·intro o
  rcases row_cases (h : w.ownsRow _ _ _ _ _ _) with ⟨hv, _⟩ | ⟨g', cap', hv, hb, ⟨cur, hh, hsz, hx⟩, hcap, hmax, hlen⟩
  ·cases hv
  ·cases hv
   exact frozen_of_row w g o _ _ hh
 ·have hr := h.owns.reads
  obtain ⟨b, off, e, hb, hc⟩ := Reads.vols (show Reads w w.heap.size _ (.row 41 4 l.length (l.flatMap volC)) from hr) (i := k) hk
  cases e
  have := hc k hk
  rwa [Nat.zero_add] at this
theorem At.only {w w' : World} {b off : Nat} {xs : List Value} {T : Nat → Prop} (h : At w (some ⟨b, off, none⟩) xs) (hg : Only T w w') (hb : b < w.heap.size) (hT : ¬ T b) : At w' (some ⟨b, off, none⟩) xs := by
 rcases h with rfl | ⟨b', off', e, hc⟩
 ·exact .inl rfl
 ·cases e
  exact .inr ⟨b, off, rfl, fun i hi => (World.cell?_of_block (a := ⟨b, off + i, none⟩) (hg.block b hb hT)).trans (hc i hi)⟩
set_option maxHeartbeats 8000000 in
theorem l11PutVol_any (va : Value) (l : List VolD) (v : VolD) (w : World) (hv : Reads w w.heap.size va (volsD l)) (hn : l.length ≤ 2000000) :
  Calls Tryz.prog 65 #[va, .agg #[.string v.a, .int .i64 v.b, .int .i64 v.c, .bool v.d]] w (NewVol w (insV l (bubK l l.length v) v)) := by
 obtain ⟨A, c, rfl, _, _⟩ := hv.shapeVol
 have HAT := Lib.hid hv.atVol
 have HB := Lib.hid (bal1 w (.cells #[.string v.a, .int .i64 v.b, .int .i64 v.c, .bool v.d] 41))
 have QV := Lib.hid (al1 w (.cells #[.string v.a, .int .i64 v.b, .int .i64 v.c, .bool v.d] 41))
 have hZ : (w.alloc (.cells #[.string v.a, .int .i64 v.b, .int .i64 v.c, .bool v.d] 41)).heap.size = w.heap.size + 1 := by simp
 clear hv
 go_enter Tryz.func65, Tryz.ntmps65
 go_upto_region 1 with (fail)
 generalize w.alloc (.cells #[.string v.a, .int .i64 v.b, .int .i64 v.c, .bool v.d] 41) = wb at *
 have hy1 := Nat.le_of_eq hZ
 have hy2 := Nat.le_of_eq hZ.symm
 clear hZ
 replace HAT := Lib.hid (HAT.out.on HB.out)
 refine but_begin (f := 6) (S := fun V => Below wb.heap.size wb V) (by kernel_rfl) ?_
 have hS0c : Below wb.heap.size wb wb.drew := Below.drew1 _
 have hz0c : wb.heap.size ≤ wb.drew.heap.size := Nat.le_refl _
 generalize wb.drew = Udc at *
 refine bt (f := 6) (i := 1) (v := ?vc1) rfl (Or.inl ⟨(by rfl), ?hyc1⟩) hS0c ?restc1
 case hyc1 => intro W hW; go_simp; exact rfl
 simp only [zA, zB, zC, Act.put, zD, zE, zF]
 refine bt (f := 6) (i := 3) (v := ?vc3) rfl (Or.inl ⟨(by rfl), ?hyc3⟩) hS0c ?restc3
 case hyc3 =>
  intro W hW
  obtain ⟨x0, x1, x2, x3, x4⟩ := box4 (box_on QV.out hW)
  go_simp
  exact rfl
 simp only [zA, zB, zC, Act.put, zD, zE, zF]
 refine but_two (i := 0) (j := 4) (by kernel_rfl) rfl rfl (by rfl) (by rfl) ?_ ?_
 ·simp only [zA, zB, zC]
  intro K HK
  go_wp2_with fail
  have hScp1 : (fun V => Below wb.heap.size wb V) (Udc.alloc (.cells #[] 41)) := bstep hS0c (bal1 _ _)
  refine HK.out _ _ (fun _ => hScp1) ?_
  clear HK
  have hBcp1 := bal1 Udc (.cells #[] 41)
  have hzcp1 : Udc.heap.size + 1 ≤ (Udc.alloc (.cells #[] 41)).heap.size := by simp
  have hzacp1 := (hS0c).size
  have R0 := Lib.hid (RowVol.lit Udc)
  generalize Udc.alloc (.cells #[] 41) = Vncp1 at *
  refine but_two (i := 2) (j := 4) (by kernel_rfl) rfl rfl (by rfl) (by rfl) ?_ ?_
  ·simp only [zA, zB, zC]
   intro K HK
   refine operAppVol _ (by rfl) (.tmp 7) (.tmp 8) (by rfl) Udc.heap.size _ [] (by rfl) R0.out A l.length c l (by rfl) (by rfl) (HAT.out.on hScp1) (by simp; omega) (by omega) ?_
   intro vcpp2 Vcpp2 ocpp2 bcpp2 gcpp2 acpp2
   rw [List.nil_append] at ocpp2
   obtain ⟨G1, e1, rfl, _, _⟩ := ocpp2.shape
   have R1 := Lib.hid ocpp2
   have hScpp2 : (fun V => Below wb.heap.size wb V) Vcpp2 := (hScp1).trans (Below.mono bcpp2 (by omega))
   refine HK.out _ _ (fun _ => hScpp2) ?_
   clear HK
   have hzcpp2 := bcpp2.size
   simp only [zA, zB, zC, Act.put, zD, zE, zF]
   refine but_run (i := 4) (by kernel_rfl) rfl (by rfl) ?_
   simp only [zA, zB, zC]
   intro K HK
   go_wp2_with fail
   have hScpp3 : (fun V => Below wb.heap.size wb V) (Vcpp2.alloc (.cells #[.string v.a, .int .i64 v.b, .int .i64 v.c, .bool v.d] 41)) := bstep hScpp2 (bal1 _ _)
   refine HK.out _ _ (fun _ => hScpp3) ?_
   clear HK
   have hBcpp3 := bal1 Vcpp2 (.cells #[.string v.a, .int .i64 v.b, .int .i64 v.c, .bool v.d] 41)
   have hzcpp3 : Vcpp2.heap.size + 1 ≤ (Vcpp2.alloc (.cells #[.string v.a, .int .i64 v.b, .int .i64 v.c, .bool v.d] 41)).heap.size := by simp
   replace R1 := Lib.hid (R1.out.on hBcpp3)
   have AV := Lib.hid (At.vol Vcpp2 v 41)
   generalize Vcpp2.alloc (.cells #[.string v.a, .int .i64 v.b, .int .i64 v.c, .bool v.d] 41) = Vncpp3 at *
   refine but_run (i := 5) (by kernel_rfl) rfl (by rfl) ?_
   simp only [zA, zB, zC]
   intro K HK
   refine operAppVol _ (by rfl) (.tmp 9) (.tmp 11) (by rfl) Udc.heap.size _ l (by rfl) R1.out (some ⟨Vcpp2.heap.size, 0, none⟩) 1 1 [v] (by rfl) (by rfl) AV.out (by simp; omega) (by omega) ?_
   intro vcpp4 Vcpp4 ocpp4 bcpp4 gcpp4 acpp4
   obtain ⟨G2, e2, hG2⟩ := row_shape (ocpp4 : World.ownsRow _ _ _ _ _ _ _) (by simp)
   subst hG2
   have hml : (l ++ [v]).length = l.length + 1 := by simp
   rw [hml]
   have R2 := Lib.hid (show RowVol Vcpp4 Udc.heap.size (.slice (some ⟨G2, 0, none⟩) (l.length + 1) e2) (l ++ [v]) from hml ▸ ocpp4)
   clear hml
   have hScpp4 : (fun V => Below wb.heap.size wb V) Vcpp4 := (hScpp3).trans (Below.mono bcpp4 (by omega))
   refine HK.out _ _ (fun _ => hScpp4) ?_
   clear HK
   have hzcpp4 := bcpp4.size
   simp only [zA, zB, zC, Act.put, zD, zE, zF]
   refine but_run (i := 6) (by kernel_rfl) rfl (by rfl) ?_
   simp only [zA, zB, zC]
   intro K HK
   go_wp2_with fail
   refine HK.out _ _ (fun h => absurd rfl h) ?_
   clear HK
   refine but_done (by kernel_rfl) ?_
   have HBB := Lib.hid (bstep HB.out hScpp4)
   have hRB := Lib.hid (R2.out.mono (base' := wb.heap.size) (by omega))
   have QW := Lib.hid (box_on QV.out hScpp4)
   clear R2 QV HB HAT
   generalize Vcpp4 = W at *
   go_wp2
   generalize G2 = g at *
   generalize e2 = cap at *
   go_loopw [6] (fun i wr => ∃ (k : Nat) (x : VolD), k ≤ l.length ∧ i = .int .i64 k ∧ Hid (bubK l l.length v = bubK l k v) ∧ Hid (RowVol wr wb.heap.size (.slice (some ⟨g, 0, none⟩) (l.length + 1) cap) (l.take k ++ x :: l.drop k)) ∧ Hid (Below w.heap.size w wr) ∧ Hid (wr.heap[w.heap.size]? = some (.cells #[.string v.a, .int .i64 v.b, .int .i64 v.c, .bool v.d] 41 (0, 0)))) (fun i _ => (intOf i).toNat)
   case atStart => exact ⟨l.length, v, Nat.le_refl _, by go_num, Lib.hid rfl, Lib.hid (by have := hRB.out; simpa using this), HBB, QW⟩
   case round =>
    clear hRB HBB QW
    obtain ⟨k, x, hk, rfl, HI, HR, HW, HQ⟩ := hrel
    have hzr := HW.out.size
    have hlen : (l.take k ++ x :: l.drop k).length = l.length + 1 := by simp; omega
    obtain ⟨g1, g2, g3, g4, g5⟩ := HR.out.cells hlen
    have HLEN := Lib.hid hlen
    obtain ⟨q0, q1, q2, q3, q4⟩ := box4 HQ.out
    have hgq : g ≠ w.heap.size := by omega
    by_cases h0 : k = 0
    ·have HE := Lib.hid (show bubK l l.length v = k by rw [HI.out, h0, bub_zero])
     have d1 : decide (0 < k) = false := decide_eq_false (by omega)
     clear g5 hlen
     go_upto_region 3 with (fail)
     refine but_begin (f := 12) (S := fun V => Below wr.drew.heap.size wr.drew V) (by kernel_rfl) ?_
     refine bt (f := 12) (i := 0) (v := ?vrax0) rfl (Or.inl ⟨(by rfl), ?hyrax0⟩) (Below.refl _ _) ?restrax0
     case hyrax0 => intro W hW; go_simp; exact rfl
     simp only [zA, zB, zC, Act.put, zD, zE, zF]
     refine bt (f := 12) (i := 1) (v := ?vrax1) rfl (Or.inl ⟨(by rfl), ?hyrax1⟩) (Below.refl _ _) ?restrax1
     case hyrax1 => intro W hW; go_simp; exact rfl
     simp only [zA, zB, zC, Act.put, zD, zE, zF]
     refine bt (f := 12) (i := 2) (v := ?vrax2) rfl (Or.inl ⟨(by rfl), ?hyrax2⟩) (Below.refl _ _) ?restrax2
     case hyrax2 => intro W hW; go_simp; exact rfl
     simp only [zA, zB, zC, Act.put, zD, zE, zF]
     refine bt (f := 12) (i := 3) (v := undef) rfl (Or.inr ⟨((wanted_at rfl rfl rfl rfl).trans rfl), rfl⟩) (Below.refl _ _) ?_
     simp only [zA, zB, zC, Act.put, zD, zE, zF]
     refine bt (f := 12) (i := 4) (v := undef) rfl (Or.inr ⟨((wanted_at rfl rfl rfl rfl).trans rfl), rfl⟩) (Below.refl _ _) ?_
     simp only [zA, zB, zC, Act.put, zD, zE, zF]
     refine bt (f := 12) (i := 5) (v := undef) rfl (Or.inr ⟨((wanted_at rfl rfl rfl rfl).trans rfl), rfl⟩) (Below.refl _ _) ?_
     simp only [zA, zB, zC, Act.put, zD, zE, zF]
     refine bt (f := 12) (i := 6) (v := undef) rfl (Or.inr ⟨((wanted_at rfl rfl rfl rfl).trans rfl), rfl⟩) (Below.refl _ _) ?_
     simp only [zA, zB, zC, Act.put, zD, zE, zF]
     refine bt (f := 12) (i := 7) (v := undef) rfl (Or.inr ⟨((wanted_at rfl rfl rfl rfl).trans rfl), rfl⟩) (Below.refl _ _) ?_
     simp only [zA, zB, zC, Act.put, zD, zE, zF]
     refine bt (f := 12) (i := 8) (v := undef) rfl (Or.inr ⟨((wanted_at rfl rfl rfl rfl).trans rfl), rfl⟩) (Below.refl _ _) ?_
     simp only [zA, zB, zC, Act.put, zD, zE, zF]
     refine bt (f := 12) (i := 9) (v := undef) rfl (Or.inr ⟨((wanted_at rfl rfl rfl rfl).trans rfl), rfl⟩) (Below.refl _ _) ?_
     simp only [zA, zB, zC, Act.put, zD, zE, zF]
     refine bt (f := 12) (i := 10) (v := undef) rfl (Or.inr ⟨((wanted_at rfl rfl rfl rfl).trans rfl), rfl⟩) (Below.refl _ _) ?_
     simp only [zA, zB, zC, Act.put, zD, zE, zF]
     refine bt (f := 12) (i := 11) (v := undef) rfl (Or.inr ⟨((wanted_at rfl rfl rfl rfl).trans rfl), rfl⟩) (Below.refl _ _) ?_
     simp only [zA, zB, zC, Act.put, zD, zE, zF]
     refine but_run (i := 12) (by kernel_rfl) rfl (by rfl) ?_
     simp only [zA, zB, zC]
     intro K HK
     go_wp2_with fail
     refine HK.out _ wr.drew (fun h => absurd rfl h) ?_
     clear HK
     refine but_done (by kernel_rfl) ?_
     replace HR := Lib.hid (HR.out.on (Below.drew1 _))
     replace HQ := Lib.hid (box_on HQ.out (Below.drew1 _))
     replace HW := Lib.hid (bstep HW.out (Below.drew1 _))
     generalize wr.drew = wd at *
     obtain ⟨g1, g2, g3, g4, g5⟩ := HR.out.cells HLEN.out
     obtain ⟨q0, q1, q2, q3, q4⟩ := box4 HQ.out
     obtain ⟨u0, u1, u2, u3⟩ := g5 k (Nat.lt_of_lt_of_eq (Nat.lt_succ_of_le hk) HLEN.out.symm)
     clear g5
     clear h0 d1
     have j1 : (k : Int) < (l.length : Int) + 1 := by omega
     have j2 : (0 : Int) ≤ (k : Int) := by omega
     go_wp2
     go_ret
     have hR2 := HR.out.setV (x := v) HLEN.out (show k < l.length + 1 by omega)
     rw [ins_last (by omega)] at hR2
     refine ⟨_, rfl, ?_, ?_⟩
     ·rw [HE.out]
      exact hR2.mono (by omega)
     ·exact (((HW.out.setCell (p := ⟨g, k * 4, none⟩) (by show w.heap.size ≤ g; omega) _).setCell (p := ⟨g, k * 4 + 1, none⟩) (by show w.heap.size ≤ g; omega) _).setCell (p := ⟨g, k * 4 + 2, none⟩) (by show w.heap.size ≤ g; omega) _).setCell (p := ⟨g, k * 4 + 3, none⟩) (by show w.heap.size ≤ g; omega) _
    ·obtain ⟨j, hj0⟩ : ∃ j, k = j + 1 := ⟨k - 1, by omega⟩
     have HJ := Lib.hid hj0
     have d1 : decide (0 < k) = true := decide_eq_true (by omega)
     have hj : j < l.length := by omega
     have hjk : j < k := by omega
     have hj2 : j < (l.take k ++ x :: l.drop k).length := by rw [hlen]; omega
     obtain ⟨y0, y1, y2, y3⟩ := g5 j hj2
     rw [ins_get hjk hk] at y0 y1 y2 y3
     have i1 : (j : Int) < (l.length : Int) + 1 := by omega
     have i2 : (0 : Int) ≤ (j : Int) := by omega
     have i4 : IntKind.i64.wrap ((k : Int) - 1) = (j : Int) := by rw [IntKind.wrap_i64]; omega
     have hjn : k - 1 = j := by omega
     clear g5 hlen hj0
     cases hs : ltV v l[j]
     ·have HE := Lib.hid (show bubK l l.length v = k by rw [HI.out, HJ.out, bub_stop hj hs])
      have h3 : Go.Op.bytesLess l[j].a.toList v.a.toList = true ∨ l[j].a.toList = v.a.toList := by
       rcases bless_tri l[j].a.toList v.a.toList with h | h | h
       ·exact .inl h
       ·exact .inr h
       ·have : ltV v l[j] = true := h
        rw [hs] at this
        cases this
      clear y1 y2 y3 hs
      rcases h3 with z1 | h3
      ·skip
       go_upto_region 3 with (fail)
       refine but_begin (f := 12) (S := fun V => Below wr.drew.heap.size wr.drew V) (by kernel_rfl) ?_
       refine bt (f := 12) (i := 0) (v := ?vrbx0) rfl (Or.inl ⟨(by rfl), ?hyrbx0⟩) (Below.refl _ _) ?restrbx0
       case hyrbx0 => intro W hW; go_simp; exact rfl
       simp only [zA, zB, zC, Act.put, zD, zE, zF]
       refine bt (f := 12) (i := 1) (v := ?vrbx1) rfl (Or.inl ⟨(by rfl), ?hyrbx1⟩) (Below.refl _ _) ?restrbx1
       case hyrbx1 => intro W hW; go_simp; exact rfl
       simp only [zA, zB, zC, Act.put, zD, zE, zF]
       refine bt (f := 12) (i := 2) (v := ?vrbx2) rfl (Or.inl ⟨(by rfl), ?hyrbx2⟩) (Below.refl _ _) ?restrbx2
       case hyrbx2 => intro W hW; go_simp; exact rfl
       simp only [zA, zB, zC, Act.put, zD, zE, zF]
       refine bt (f := 12) (i := 3) (v := ?vrbx3) rfl (Or.inl ⟨((wanted_at rfl rfl rfl rfl).trans rfl), ?hyrbx3⟩) (Below.refl _ _) ?restrbx3
       case hyrbx3 => intro W hW; go_simp; exact rfl
       simp only [zA, zB, zC, Act.put, zD, zE, zF]
       refine bt (f := 12) (i := 4) (v := ?vrbx4) rfl (Or.inl ⟨((wanted_at rfl rfl rfl rfl).trans rfl), ?hyrbx4⟩) (Below.refl _ _) ?restrbx4
       case hyrbx4 => intro W hW; go_simp; exact rfl
       simp only [zA, zB, zC, Act.put, zD, zE, zF]
       refine bt (f := 12) (i := 5) (v := ?vrbx5) rfl (Or.inl ⟨((wanted_at rfl rfl rfl rfl).trans rfl), ?hyrbx5⟩) (Below.refl _ _) ?restrbx5
       case hyrbx5 => intro W hW; go_simp; exact rfl
       simp only [zA, zB, zC, Act.put, zD, zE, zF]
       refine bt (f := 12) (i := 6) (v := ?vrbx6) rfl (Or.inl ⟨((wanted_at rfl rfl rfl rfl).trans rfl), ?hyrbx6⟩) (Below.refl _ _) ?restrbx6
       case hyrbx6 => intro W hW; go_simp; exact rfl
       simp only [zA, zB, zC, Act.put, zD, zE, zF]
       refine bt (f := 12) (i := 7) (v := ?vrbx7) rfl (Or.inl ⟨((wanted_at rfl rfl rfl rfl).trans rfl), ?hyrbx7⟩) (Below.refl _ _) ?restrbx7
       case hyrbx7 => intro W hW; go_simp; exact rfl
       simp only [zA, zB, zC, Act.put, zD, zE, zF]
       refine bt (f := 12) (i := 8) (v := ?vrbx8) rfl (Or.inl ⟨((wanted_at rfl rfl rfl rfl).trans rfl), ?hyrbx8⟩) (Below.refl _ _) ?restrbx8
       case hyrbx8 =>
        intro W hW
        have hb0 : Below wr.heap.size wr W := bstep (Below.drew1 _) hW
        have z0 := (hb0.cell (p := ⟨g, j * 4, none⟩) g1).trans y0
        go_simp
        exact rfl
       simp only [zA, zB, zC, Act.put, zD, zE, zF]
       refine bt (f := 12) (i := 9) (v := ?vrbx9) rfl (Or.inl ⟨((wanted_at rfl rfl rfl rfl).trans rfl), ?hyrbx9⟩) (Below.refl _ _) ?restrbx9
       case hyrbx9 => intro W hW; go_simp; exact rfl
       simp only [zA, zB, zC, Act.put, zD, zE, zF]
       refine bt (f := 12) (i := 10) (v := ?vrbx10) rfl (Or.inl ⟨((wanted_at rfl rfl rfl rfl).trans rfl), ?hyrbx10⟩) (Below.refl _ _) ?restrbx10
       case hyrbx10 =>
        intro W hW
        have hb0 : Below wr.heap.size wr W := bstep (Below.drew1 _) hW
        obtain ⟨q0, q1, q2, q3, q4⟩ := box4 (box_on HQ.out hb0)
        go_simp
        exact rfl
       simp only [zA, zB, zC, Act.put, zD, zE, zF]
       refine bt (f := 12) (i := 11) (v := ?vrbx11) rfl (Or.inl ⟨((wanted_at rfl rfl rfl rfl).trans rfl), ?hyrbx11⟩) (Below.refl _ _) ?restrbx11
       case hyrbx11 => intro W hW; go_simp; exact rfl
       simp only [zA, zB, zC, Act.put, zD, zE, zF]
       refine but_run (i := 12) (by kernel_rfl) rfl (by rfl) ?_
       simp only [zA, zB, zC]
       intro K HK
       go_wp2_with fail
       refine HK.out _ wr.drew (fun h => absurd rfl h) ?_
       clear HK
       refine but_done (by kernel_rfl) ?_
       replace HR := Lib.hid (HR.out.on (Below.drew1 _))
       replace HQ := Lib.hid (box_on HQ.out (Below.drew1 _))
       replace HW := Lib.hid (bstep HW.out (Below.drew1 _))
       generalize wr.drew = wd at *
       obtain ⟨g1, g2, g3, g4, g5⟩ := HR.out.cells HLEN.out
       obtain ⟨q0, q1, q2, q3, q4⟩ := box4 HQ.out
       obtain ⟨u0, u1, u2, u3⟩ := g5 k (Nat.lt_of_lt_of_eq (Nat.lt_succ_of_le hk) HLEN.out.symm)
       clear g5
       clear h0 d1 hjn i4 z1 y0
       have j1 : (k : Int) < (l.length : Int) + 1 := by omega
       have j2 : (0 : Int) ≤ (k : Int) := by omega
       go_wp2
       go_ret
       have hR2 := HR.out.setV (x := v) HLEN.out (show k < l.length + 1 by omega)
       rw [ins_last (by omega)] at hR2
       refine ⟨_, rfl, ?_, ?_⟩
       ·rw [HE.out]
        exact hR2.mono (by omega)
       ·exact (((HW.out.setCell (p := ⟨g, k * 4, none⟩) (by show w.heap.size ≤ g; omega) _).setCell (p := ⟨g, k * 4 + 1, none⟩) (by show w.heap.size ≤ g; omega) _).setCell (p := ⟨g, k * 4 + 2, none⟩) (by show w.heap.size ≤ g; omega) _).setCell (p := ⟨g, k * 4 + 3, none⟩) (by show w.heap.size ≤ g; omega) _
      ·have z1 : Go.Op.bytesLess l[j].a.toList v.a.toList = false := by rw [h3]; exact bless_irr _
       have z2 : (l[j].a.toList == v.a.toList) = true := by rw [h3]; exact beq_self_eq_true _
       clear h3
       go_upto_region 3 with (fail)
       refine but_begin (f := 12) (S := fun V => Below wr.drew.heap.size wr.drew V) (by kernel_rfl) ?_
       refine bt (f := 12) (i := 0) (v := ?vrdx0) rfl (Or.inl ⟨(by rfl), ?hyrdx0⟩) (Below.refl _ _) ?restrdx0
       case hyrdx0 => intro W hW; go_simp; exact rfl
       simp only [zA, zB, zC, Act.put, zD, zE, zF]
       refine bt (f := 12) (i := 1) (v := ?vrdx1) rfl (Or.inl ⟨(by rfl), ?hyrdx1⟩) (Below.refl _ _) ?restrdx1
       case hyrdx1 => intro W hW; go_simp; exact rfl
       simp only [zA, zB, zC, Act.put, zD, zE, zF]
       refine bt (f := 12) (i := 2) (v := ?vrdx2) rfl (Or.inl ⟨(by rfl), ?hyrdx2⟩) (Below.refl _ _) ?restrdx2
       case hyrdx2 => intro W hW; go_simp; exact rfl
       simp only [zA, zB, zC, Act.put, zD, zE, zF]
       refine bt (f := 12) (i := 3) (v := ?vrdx3) rfl (Or.inl ⟨((wanted_at rfl rfl rfl rfl).trans rfl), ?hyrdx3⟩) (Below.refl _ _) ?restrdx3
       case hyrdx3 => intro W hW; go_simp; exact rfl
       simp only [zA, zB, zC, Act.put, zD, zE, zF]
       refine bt (f := 12) (i := 4) (v := ?vrdx4) rfl (Or.inl ⟨((wanted_at rfl rfl rfl rfl).trans rfl), ?hyrdx4⟩) (Below.refl _ _) ?restrdx4
       case hyrdx4 => intro W hW; go_simp; exact rfl
       simp only [zA, zB, zC, Act.put, zD, zE, zF]
       refine bt (f := 12) (i := 5) (v := ?vrdx5) rfl (Or.inl ⟨((wanted_at rfl rfl rfl rfl).trans rfl), ?hyrdx5⟩) (Below.refl _ _) ?restrdx5
       case hyrdx5 => intro W hW; go_simp; exact rfl
       simp only [zA, zB, zC, Act.put, zD, zE, zF]
       refine bt (f := 12) (i := 6) (v := ?vrdx6) rfl (Or.inl ⟨((wanted_at rfl rfl rfl rfl).trans rfl), ?hyrdx6⟩) (Below.refl _ _) ?restrdx6
       case hyrdx6 => intro W hW; go_simp; exact rfl
       simp only [zA, zB, zC, Act.put, zD, zE, zF]
       refine bt (f := 12) (i := 7) (v := ?vrdx7) rfl (Or.inl ⟨((wanted_at rfl rfl rfl rfl).trans rfl), ?hyrdx7⟩) (Below.refl _ _) ?restrdx7
       case hyrdx7 => intro W hW; go_simp; exact rfl
       simp only [zA, zB, zC, Act.put, zD, zE, zF]
       refine bt (f := 12) (i := 8) (v := ?vrdx8) rfl (Or.inl ⟨((wanted_at rfl rfl rfl rfl).trans rfl), ?hyrdx8⟩) (Below.refl _ _) ?restrdx8
       case hyrdx8 =>
        intro W hW
        have hb0 : Below wr.heap.size wr W := bstep (Below.drew1 _) hW
        have z0 := (hb0.cell (p := ⟨g, j * 4, none⟩) g1).trans y0
        go_simp
        exact rfl
       simp only [zA, zB, zC, Act.put, zD, zE, zF]
       refine bt (f := 12) (i := 9) (v := ?vrdx9) rfl (Or.inl ⟨((wanted_at rfl rfl rfl rfl).trans rfl), ?hyrdx9⟩) (Below.refl _ _) ?restrdx9
       case hyrdx9 => intro W hW; go_simp; exact rfl
       simp only [zA, zB, zC, Act.put, zD, zE, zF]
       refine bt (f := 12) (i := 10) (v := ?vrdx10) rfl (Or.inl ⟨((wanted_at rfl rfl rfl rfl).trans rfl), ?hyrdx10⟩) (Below.refl _ _) ?restrdx10
       case hyrdx10 =>
        intro W hW
        have hb0 : Below wr.heap.size wr W := bstep (Below.drew1 _) hW
        obtain ⟨q0, q1, q2, q3, q4⟩ := box4 (box_on HQ.out hb0)
        go_simp
        exact rfl
       simp only [zA, zB, zC, Act.put, zD, zE, zF]
       refine bt (f := 12) (i := 11) (v := ?vrdx11) rfl (Or.inl ⟨((wanted_at rfl rfl rfl rfl).trans rfl), ?hyrdx11⟩) (Below.refl _ _) ?restrdx11
       case hyrdx11 => intro W hW; go_simp; exact rfl
       simp only [zA, zB, zC, Act.put, zD, zE, zF]
       refine but_run (i := 12) (by kernel_rfl) rfl (by rfl) ?_
       simp only [zA, zB, zC]
       intro K HK
       go_wp2_with fail
       refine HK.out _ wr.drew (fun h => absurd rfl h) ?_
       clear HK
       refine but_done (by kernel_rfl) ?_
       replace HR := Lib.hid (HR.out.on (Below.drew1 _))
       replace HQ := Lib.hid (box_on HQ.out (Below.drew1 _))
       replace HW := Lib.hid (bstep HW.out (Below.drew1 _))
       generalize wr.drew = wd at *
       obtain ⟨g1, g2, g3, g4, g5⟩ := HR.out.cells HLEN.out
       obtain ⟨q0, q1, q2, q3, q4⟩ := box4 HQ.out
       obtain ⟨u0, u1, u2, u3⟩ := g5 k (Nat.lt_of_lt_of_eq (Nat.lt_succ_of_le hk) HLEN.out.symm)
       clear g5
       clear h0 d1 hjn i4 z1 z2 y0
       have j1 : (k : Int) < (l.length : Int) + 1 := by omega
       have j2 : (0 : Int) ≤ (k : Int) := by omega
       go_wp2
       go_ret
       have hR2 := HR.out.setV (x := v) HLEN.out (show k < l.length + 1 by omega)
       rw [ins_last (by omega)] at hR2
       refine ⟨_, rfl, ?_, ?_⟩
       ·rw [HE.out]
        exact hR2.mono (by omega)
       ·exact (((HW.out.setCell (p := ⟨g, k * 4, none⟩) (by show w.heap.size ≤ g; omega) _).setCell (p := ⟨g, k * 4 + 1, none⟩) (by show w.heap.size ≤ g; omega) _).setCell (p := ⟨g, k * 4 + 2, none⟩) (by show w.heap.size ≤ g; omega) _).setCell (p := ⟨g, k * 4 + 3, none⟩) (by show w.heap.size ≤ g; omega) _
     ·have HE := Lib.hid (show bubK l l.length v = bubK l j v by rw [HI.out, HJ.out, bub_step hj hs])
      have z1 : Go.Op.bytesLess l[j].a.toList v.a.toList = false := by
       cases h : Go.Op.bytesLess l[j].a.toList v.a.toList
       ·rfl
       ·have := ltV_trans (x := v) (y := l[j]) (z := v) hs h
        rw [ltV_irr] at this
        cases this
      have z2 : (l[j].a.toList == v.a.toList) = false := by
       rw [beq_eq_false_iff_ne]
       intro h
       unfold ltV at hs
       rw [h, bless_irr] at hs
       cases hs
      clear y1 y2 y3 hs
      go_upto_region 3 with (fail)
      refine but_begin (f := 12) (S := fun V => Below wr.drew.heap.size wr.drew V) (by kernel_rfl) ?_
      refine bt (f := 12) (i := 0) (v := ?vrcx0) rfl (Or.inl ⟨(by rfl), ?hyrcx0⟩) (Below.refl _ _) ?restrcx0
      case hyrcx0 => intro W hW; go_simp; exact rfl
      simp only [zA, zB, zC, Act.put, zD, zE, zF]
      refine bt (f := 12) (i := 1) (v := ?vrcx1) rfl (Or.inl ⟨(by rfl), ?hyrcx1⟩) (Below.refl _ _) ?restrcx1
      case hyrcx1 => intro W hW; go_simp; exact rfl
      simp only [zA, zB, zC, Act.put, zD, zE, zF]
      refine bt (f := 12) (i := 2) (v := ?vrcx2) rfl (Or.inl ⟨(by rfl), ?hyrcx2⟩) (Below.refl _ _) ?restrcx2
      case hyrcx2 => intro W hW; go_simp; exact rfl
      simp only [zA, zB, zC, Act.put, zD, zE, zF]
      refine bt (f := 12) (i := 3) (v := ?vrcx3) rfl (Or.inl ⟨((wanted_at rfl rfl rfl rfl).trans rfl), ?hyrcx3⟩) (Below.refl _ _) ?restrcx3
      case hyrcx3 => intro W hW; go_simp; exact rfl
      simp only [zA, zB, zC, Act.put, zD, zE, zF]
      refine bt (f := 12) (i := 4) (v := ?vrcx4) rfl (Or.inl ⟨((wanted_at rfl rfl rfl rfl).trans rfl), ?hyrcx4⟩) (Below.refl _ _) ?restrcx4
      case hyrcx4 => intro W hW; go_simp; exact rfl
      simp only [zA, zB, zC, Act.put, zD, zE, zF]
      refine bt (f := 12) (i := 5) (v := ?vrcx5) rfl (Or.inl ⟨((wanted_at rfl rfl rfl rfl).trans rfl), ?hyrcx5⟩) (Below.refl _ _) ?restrcx5
      case hyrcx5 => intro W hW; go_simp; exact rfl
      simp only [zA, zB, zC, Act.put, zD, zE, zF]
      refine bt (f := 12) (i := 6) (v := ?vrcx6) rfl (Or.inl ⟨((wanted_at rfl rfl rfl rfl).trans rfl), ?hyrcx6⟩) (Below.refl _ _) ?restrcx6
      case hyrcx6 => intro W hW; go_simp; exact rfl
      simp only [zA, zB, zC, Act.put, zD, zE, zF]
      refine bt (f := 12) (i := 7) (v := ?vrcx7) rfl (Or.inl ⟨((wanted_at rfl rfl rfl rfl).trans rfl), ?hyrcx7⟩) (Below.refl _ _) ?restrcx7
      case hyrcx7 => intro W hW; go_simp; exact rfl
      simp only [zA, zB, zC, Act.put, zD, zE, zF]
      refine bt (f := 12) (i := 8) (v := ?vrcx8) rfl (Or.inl ⟨((wanted_at rfl rfl rfl rfl).trans rfl), ?hyrcx8⟩) (Below.refl _ _) ?restrcx8
      case hyrcx8 =>
       intro W hW
       have hb0 : Below wr.heap.size wr W := bstep (Below.drew1 _) hW
       have z0 := (hb0.cell (p := ⟨g, j * 4, none⟩) g1).trans y0
       go_simp
       exact rfl
      simp only [zA, zB, zC, Act.put, zD, zE, zF]
      refine bt (f := 12) (i := 9) (v := ?vrcx9) rfl (Or.inl ⟨((wanted_at rfl rfl rfl rfl).trans rfl), ?hyrcx9⟩) (Below.refl _ _) ?restrcx9
      case hyrcx9 => intro W hW; go_simp; exact rfl
      simp only [zA, zB, zC, Act.put, zD, zE, zF]
      refine bt (f := 12) (i := 10) (v := ?vrcx10) rfl (Or.inl ⟨((wanted_at rfl rfl rfl rfl).trans rfl), ?hyrcx10⟩) (Below.refl _ _) ?restrcx10
      case hyrcx10 =>
       intro W hW
       have hb0 : Below wr.heap.size wr W := bstep (Below.drew1 _) hW
       obtain ⟨q0, q1, q2, q3, q4⟩ := box4 (box_on HQ.out hb0)
       go_simp
       exact rfl
      simp only [zA, zB, zC, Act.put, zD, zE, zF]
      refine bt (f := 12) (i := 11) (v := ?vrcx11) rfl (Or.inl ⟨((wanted_at rfl rfl rfl rfl).trans rfl), ?hyrcx11⟩) (Below.refl _ _) ?restrcx11
      case hyrcx11 => intro W hW; go_simp; exact rfl
      simp only [zA, zB, zC, Act.put, zD, zE, zF]
      refine but_run (i := 12) (by kernel_rfl) rfl (by rfl) ?_
      simp only [zA, zB, zC]
      intro K HK
      go_wp2_with fail
      refine HK.out _ wr.drew (fun h => absurd rfl h) ?_
      clear HK
      refine but_done (by kernel_rfl) ?_
      replace HR := Lib.hid (HR.out.on (Below.drew1 _))
      replace HQ := Lib.hid (box_on HQ.out (Below.drew1 _))
      replace HW := Lib.hid (bstep HW.out (Below.drew1 _))
      generalize wr.drew = wd at *
      obtain ⟨g1, g2, g3, g4, g5⟩ := HR.out.cells HLEN.out
      obtain ⟨q0, q1, q2, q3, q4⟩ := box4 HQ.out
      obtain ⟨u0, u1, u2, u3⟩ := g5 k (Nat.lt_of_lt_of_eq (Nat.lt_succ_of_le hk) HLEN.out.symm)
      clear hjn
      have j1 : (k : Int) < (l.length : Int) + 1 := by omega
      have j2 : (0 : Int) ≤ (k : Int) := by omega
      obtain ⟨y0, y1, y2, y3⟩ := g5 j hj2
      rw [ins_get (show j < k by omega) (by omega)] at y0 y1 y2 y3
      clear g5
      go_wp2
      have hR2 := HR.out.setV (x := l[j]) HLEN.out (show k < l.length + 1 by omega)
      have e2 : (l.take k ++ x :: l.drop k).set k l[j] = l.take j ++ l[j] :: l.drop j := by rw [HJ.out]; exact ins_shift hj x
      rw [e2] at hR2
      go_roundw
      case rel => exact ⟨j, l[j], by omega, by go_num, HE, Lib.hid hR2, Lib.hid ((((HW.out.setCell (p := ⟨g, k * 4, none⟩) (by show w.heap.size ≤ g; omega) _).setCell (p := ⟨g, k * 4 + 1, none⟩) (by show w.heap.size ≤ g; omega) _).setCell (p := ⟨g, k * 4 + 2, none⟩) (by show w.heap.size ≤ g; omega) _).setCell (p := ⟨g, k * 4 + 3, none⟩) (by show w.heap.size ≤ g; omega) _), Lib.hid (box_far (box_far (box_far (box_far HQ.out (by omega)) (by omega)) (by omega)) (by omega))⟩
      case measure => simp [intOf]; omega
  ·simp only [zA, zB, zC]
   intro K HK
   go_wp2_with fail
   have hScpq2 : (fun V => Below wb.heap.size wb V) (Vncp1.alloc (.cells #[.string v.a, .int .i64 v.b, .int .i64 v.c, .bool v.d] 41)) := bstep hScp1 (bal1 _ _)
   refine HK.out _ _ (fun _ => hScpq2) ?_
   clear HK
   have hBcpq2 := bal1 Vncp1 (.cells #[.string v.a, .int .i64 v.b, .int .i64 v.c, .bool v.d] 41)
   have hzcpq2 : Vncp1.heap.size + 1 ≤ (Vncp1.alloc (.cells #[.string v.a, .int .i64 v.b, .int .i64 v.c, .bool v.d] 41)).heap.size := by simp
   replace R0 := Lib.hid (R0.out.on hBcpq2)
   have AV := Lib.hid (At.vol Vncp1 v 41)
   generalize Vncp1.alloc (.cells #[.string v.a, .int .i64 v.b, .int .i64 v.c, .bool v.d] 41) = Vncpq2 at *
   refine but_run (i := 2) (by kernel_rfl) rfl (by rfl) ?_
   simp only [zA, zB, zC]
   intro K HK
   refine operAppVol _ (by rfl) (.tmp 7) (.tmp 8) (by rfl) Udc.heap.size _ [] (by rfl) R0.out A l.length c l (by rfl) (by rfl) (HAT.out.on hScpq2) (by simp; omega) (by omega) ?_
   intro vcpq3 Vcpq3 ocpq3 bcpq3 gcpq3 acpq3
   rw [List.nil_append] at ocpq3
   obtain ⟨G1, e1, rfl, _, _⟩ := ocpq3.shape
   have R1 := Lib.hid ocpq3
   have hScpq3 : (fun V => Below wb.heap.size wb V) Vcpq3 := (hScpq2).trans (Below.mono bcpq3 (by omega))
   refine HK.out _ _ (fun _ => hScpq3) ?_
   clear HK
   have hzcpq3 := bcpq3.size
   replace AV := Lib.hid (AV.out.only gcpq3 (by omega) (fun e => by simp [Value.ownBlock] at e; omega))
   simp only [zA, zB, zC, Act.put, zD, zE, zF]
   refine but_run (i := 5) (by kernel_rfl) rfl (by rfl) ?_
   simp only [zA, zB, zC]
   intro K HK
   refine operAppVol _ (by rfl) (.tmp 9) (.tmp 11) (by rfl) Udc.heap.size _ l (by rfl) R1.out (some ⟨Vncp1.heap.size, 0, none⟩) 1 1 [v] (by rfl) (by rfl) AV.out (by simp; omega) (by omega) ?_
   intro vcpq4 Vcpq4 ocpq4 bcpq4 gcpq4 acpq4
   obtain ⟨G2, e2, hG2⟩ := row_shape (ocpq4 : World.ownsRow _ _ _ _ _ _ _) (by simp)
   subst hG2
   have hml : (l ++ [v]).length = l.length + 1 := by simp
   rw [hml]
   have R2 := Lib.hid (show RowVol Vcpq4 Udc.heap.size (.slice (some ⟨G2, 0, none⟩) (l.length + 1) e2) (l ++ [v]) from hml ▸ ocpq4)
   clear hml
   have hScpq4 : (fun V => Below wb.heap.size wb V) Vcpq4 := (hScpq3).trans (Below.mono bcpq4 (by omega))
   refine HK.out _ _ (fun _ => hScpq4) ?_
   clear HK
   have hzcpq4 := bcpq4.size
   simp only [zA, zB, zC, Act.put, zD, zE, zF]
   refine but_run (i := 6) (by kernel_rfl) rfl (by rfl) ?_
   simp only [zA, zB, zC]
   intro K HK
   go_wp2_with fail
   refine HK.out _ _ (fun h => absurd rfl h) ?_
   clear HK
   refine but_done (by kernel_rfl) ?_
   have HBB := Lib.hid (bstep HB.out hScpq4)
   have hRB := Lib.hid (R2.out.mono (base' := wb.heap.size) (by omega))
   have QW := Lib.hid (box_on QV.out hScpq4)
   clear R2 QV HB HAT
   generalize Vcpq4 = W at *
   go_wp2
   generalize G2 = g at *
   generalize e2 = cap at *
   go_loopw [6] (fun i wr => ∃ (k : Nat) (x : VolD), k ≤ l.length ∧ i = .int .i64 k ∧ Hid (bubK l l.length v = bubK l k v) ∧ Hid (RowVol wr wb.heap.size (.slice (some ⟨g, 0, none⟩) (l.length + 1) cap) (l.take k ++ x :: l.drop k)) ∧ Hid (Below w.heap.size w wr) ∧ Hid (wr.heap[w.heap.size]? = some (.cells #[.string v.a, .int .i64 v.b, .int .i64 v.c, .bool v.d] 41 (0, 0)))) (fun i _ => (intOf i).toNat)
   case atStart => exact ⟨l.length, v, Nat.le_refl _, by go_num, Lib.hid rfl, Lib.hid (by have := hRB.out; simpa using this), HBB, QW⟩
   case round =>
    clear hRB HBB QW
    obtain ⟨k, x, hk, rfl, HI, HR, HW, HQ⟩ := hrel
    have hzr := HW.out.size
    have hlen : (l.take k ++ x :: l.drop k).length = l.length + 1 := by simp; omega
    obtain ⟨g1, g2, g3, g4, g5⟩ := HR.out.cells hlen
    have HLEN := Lib.hid hlen
    obtain ⟨q0, q1, q2, q3, q4⟩ := box4 HQ.out
    have hgq : g ≠ w.heap.size := by omega
    by_cases h0 : k = 0
    ·have HE := Lib.hid (show bubK l l.length v = k by rw [HI.out, h0, bub_zero])
     have d1 : decide (0 < k) = false := decide_eq_false (by omega)
     clear g5 hlen
     go_upto_region 3 with (fail)
     refine but_begin (f := 12) (S := fun V => Below wr.drew.heap.size wr.drew V) (by kernel_rfl) ?_
     refine bt (f := 12) (i := 0) (v := ?vray0) rfl (Or.inl ⟨(by rfl), ?hyray0⟩) (Below.refl _ _) ?restray0
     case hyray0 => intro W hW; go_simp; exact rfl
     simp only [zA, zB, zC, Act.put, zD, zE, zF]
     refine bt (f := 12) (i := 1) (v := ?vray1) rfl (Or.inl ⟨(by rfl), ?hyray1⟩) (Below.refl _ _) ?restray1
     case hyray1 => intro W hW; go_simp; exact rfl
     simp only [zA, zB, zC, Act.put, zD, zE, zF]
     refine bt (f := 12) (i := 2) (v := ?vray2) rfl (Or.inl ⟨(by rfl), ?hyray2⟩) (Below.refl _ _) ?restray2
     case hyray2 => intro W hW; go_simp; exact rfl
     simp only [zA, zB, zC, Act.put, zD, zE, zF]
     refine bt (f := 12) (i := 3) (v := undef) rfl (Or.inr ⟨((wanted_at rfl rfl rfl rfl).trans rfl), rfl⟩) (Below.refl _ _) ?_
     simp only [zA, zB, zC, Act.put, zD, zE, zF]
     refine bt (f := 12) (i := 4) (v := undef) rfl (Or.inr ⟨((wanted_at rfl rfl rfl rfl).trans rfl), rfl⟩) (Below.refl _ _) ?_
     simp only [zA, zB, zC, Act.put, zD, zE, zF]
     refine bt (f := 12) (i := 5) (v := undef) rfl (Or.inr ⟨((wanted_at rfl rfl rfl rfl).trans rfl), rfl⟩) (Below.refl _ _) ?_
     simp only [zA, zB, zC, Act.put, zD, zE, zF]
     refine bt (f := 12) (i := 6) (v := undef) rfl (Or.inr ⟨((wanted_at rfl rfl rfl rfl).trans rfl), rfl⟩) (Below.refl _ _) ?_
     simp only [zA, zB, zC, Act.put, zD, zE, zF]
     refine bt (f := 12) (i := 7) (v := undef) rfl (Or.inr ⟨((wanted_at rfl rfl rfl rfl).trans rfl), rfl⟩) (Below.refl _ _) ?_
     simp only [zA, zB, zC, Act.put, zD, zE, zF]
     refine bt (f := 12) (i := 8) (v := undef) rfl (Or.inr ⟨((wanted_at rfl rfl rfl rfl).trans rfl), rfl⟩) (Below.refl _ _) ?_
     simp only [zA, zB, zC, Act.put, zD, zE, zF]
     refine bt (f := 12) (i := 9) (v := undef) rfl (Or.inr ⟨((wanted_at rfl rfl rfl rfl).trans rfl), rfl⟩) (Below.refl _ _) ?_
     simp only [zA, zB, zC, Act.put, zD, zE, zF]
     refine bt (f := 12) (i := 10) (v := undef) rfl (Or.inr ⟨((wanted_at rfl rfl rfl rfl).trans rfl), rfl⟩) (Below.refl _ _) ?_
     simp only [zA, zB, zC, Act.put, zD, zE, zF]
     refine bt (f := 12) (i := 11) (v := undef) rfl (Or.inr ⟨((wanted_at rfl rfl rfl rfl).trans rfl), rfl⟩) (Below.refl _ _) ?_
     simp only [zA, zB, zC, Act.put, zD, zE, zF]
     refine but_run (i := 12) (by kernel_rfl) rfl (by rfl) ?_
     simp only [zA, zB, zC]
     intro K HK
     go_wp2_with fail
     refine HK.out _ wr.drew (fun h => absurd rfl h) ?_
     clear HK
     refine but_done (by kernel_rfl) ?_
     replace HR := Lib.hid (HR.out.on (Below.drew1 _))
     replace HQ := Lib.hid (box_on HQ.out (Below.drew1 _))
     replace HW := Lib.hid (bstep HW.out (Below.drew1 _))
     generalize wr.drew = wd at *
     obtain ⟨g1, g2, g3, g4, g5⟩ := HR.out.cells HLEN.out
     obtain ⟨q0, q1, q2, q3, q4⟩ := box4 HQ.out
     obtain ⟨u0, u1, u2, u3⟩ := g5 k (Nat.lt_of_lt_of_eq (Nat.lt_succ_of_le hk) HLEN.out.symm)
     clear g5
     clear h0 d1
     have j1 : (k : Int) < (l.length : Int) + 1 := by omega
     have j2 : (0 : Int) ≤ (k : Int) := by omega
     go_wp2
     go_ret
     have hR2 := HR.out.setV (x := v) HLEN.out (show k < l.length + 1 by omega)
     rw [ins_last (by omega)] at hR2
     refine ⟨_, rfl, ?_, ?_⟩
     ·rw [HE.out]
      exact hR2.mono (by omega)
     ·exact (((HW.out.setCell (p := ⟨g, k * 4, none⟩) (by show w.heap.size ≤ g; omega) _).setCell (p := ⟨g, k * 4 + 1, none⟩) (by show w.heap.size ≤ g; omega) _).setCell (p := ⟨g, k * 4 + 2, none⟩) (by show w.heap.size ≤ g; omega) _).setCell (p := ⟨g, k * 4 + 3, none⟩) (by show w.heap.size ≤ g; omega) _
    ·obtain ⟨j, hj0⟩ : ∃ j, k = j + 1 := ⟨k - 1, by omega⟩
     have HJ := Lib.hid hj0
     have d1 : decide (0 < k) = true := decide_eq_true (by omega)
     have hj : j < l.length := by omega
     have hjk : j < k := by omega
     have hj2 : j < (l.take k ++ x :: l.drop k).length := by rw [hlen]; omega
     obtain ⟨y0, y1, y2, y3⟩ := g5 j hj2
     rw [ins_get hjk hk] at y0 y1 y2 y3
     have i1 : (j : Int) < (l.length : Int) + 1 := by omega
     have i2 : (0 : Int) ≤ (j : Int) := by omega
     have i4 : IntKind.i64.wrap ((k : Int) - 1) = (j : Int) := by rw [IntKind.wrap_i64]; omega
     have hjn : k - 1 = j := by omega
     clear g5 hlen hj0
     cases hs : ltV v l[j]
     ·have HE := Lib.hid (show bubK l l.length v = k by rw [HI.out, HJ.out, bub_stop hj hs])
      have h3 : Go.Op.bytesLess l[j].a.toList v.a.toList = true ∨ l[j].a.toList = v.a.toList := by
       rcases bless_tri l[j].a.toList v.a.toList with h | h | h
       ·exact .inl h
       ·exact .inr h
       ·have : ltV v l[j] = true := h
        rw [hs] at this
        cases this
      clear y1 y2 y3 hs
      rcases h3 with z1 | h3
      ·skip
       go_upto_region 3 with (fail)
       refine but_begin (f := 12) (S := fun V => Below wr.drew.heap.size wr.drew V) (by kernel_rfl) ?_
       refine bt (f := 12) (i := 0) (v := ?vrby0) rfl (Or.inl ⟨(by rfl), ?hyrby0⟩) (Below.refl _ _) ?restrby0
       case hyrby0 => intro W hW; go_simp; exact rfl
       simp only [zA, zB, zC, Act.put, zD, zE, zF]
       refine bt (f := 12) (i := 1) (v := ?vrby1) rfl (Or.inl ⟨(by rfl), ?hyrby1⟩) (Below.refl _ _) ?restrby1
       case hyrby1 => intro W hW; go_simp; exact rfl
       simp only [zA, zB, zC, Act.put, zD, zE, zF]
       refine bt (f := 12) (i := 2) (v := ?vrby2) rfl (Or.inl ⟨(by rfl), ?hyrby2⟩) (Below.refl _ _) ?restrby2
       case hyrby2 => intro W hW; go_simp; exact rfl
       simp only [zA, zB, zC, Act.put, zD, zE, zF]
       refine bt (f := 12) (i := 3) (v := ?vrby3) rfl (Or.inl ⟨((wanted_at rfl rfl rfl rfl).trans rfl), ?hyrby3⟩) (Below.refl _ _) ?restrby3
       case hyrby3 => intro W hW; go_simp; exact rfl
       simp only [zA, zB, zC, Act.put, zD, zE, zF]
       refine bt (f := 12) (i := 4) (v := ?vrby4) rfl (Or.inl ⟨((wanted_at rfl rfl rfl rfl).trans rfl), ?hyrby4⟩) (Below.refl _ _) ?restrby4
       case hyrby4 => intro W hW; go_simp; exact rfl
       simp only [zA, zB, zC, Act.put, zD, zE, zF]
       refine bt (f := 12) (i := 5) (v := ?vrby5) rfl (Or.inl ⟨((wanted_at rfl rfl rfl rfl).trans rfl), ?hyrby5⟩) (Below.refl _ _) ?restrby5
       case hyrby5 => intro W hW; go_simp; exact rfl
       simp only [zA, zB, zC, Act.put, zD, zE, zF]
       refine bt (f := 12) (i := 6) (v := ?vrby6) rfl (Or.inl ⟨((wanted_at rfl rfl rfl rfl).trans rfl), ?hyrby6⟩) (Below.refl _ _) ?restrby6
       case hyrby6 => intro W hW; go_simp; exact rfl
       simp only [zA, zB, zC, Act.put, zD, zE, zF]
       refine bt (f := 12) (i := 7) (v := ?vrby7) rfl (Or.inl ⟨((wanted_at rfl rfl rfl rfl).trans rfl), ?hyrby7⟩) (Below.refl _ _) ?restrby7
       case hyrby7 => intro W hW; go_simp; exact rfl
       simp only [zA, zB, zC, Act.put, zD, zE, zF]
       refine bt (f := 12) (i := 8) (v := ?vrby8) rfl (Or.inl ⟨((wanted_at rfl rfl rfl rfl).trans rfl), ?hyrby8⟩) (Below.refl _ _) ?restrby8
       case hyrby8 =>
        intro W hW
        have hb0 : Below wr.heap.size wr W := bstep (Below.drew1 _) hW
        have z0 := (hb0.cell (p := ⟨g, j * 4, none⟩) g1).trans y0
        go_simp
        exact rfl
       simp only [zA, zB, zC, Act.put, zD, zE, zF]
       refine bt (f := 12) (i := 9) (v := ?vrby9) rfl (Or.inl ⟨((wanted_at rfl rfl rfl rfl).trans rfl), ?hyrby9⟩) (Below.refl _ _) ?restrby9
       case hyrby9 => intro W hW; go_simp; exact rfl
       simp only [zA, zB, zC, Act.put, zD, zE, zF]
       refine bt (f := 12) (i := 10) (v := ?vrby10) rfl (Or.inl ⟨((wanted_at rfl rfl rfl rfl).trans rfl), ?hyrby10⟩) (Below.refl _ _) ?restrby10
       case hyrby10 =>
        intro W hW
        have hb0 : Below wr.heap.size wr W := bstep (Below.drew1 _) hW
        obtain ⟨q0, q1, q2, q3, q4⟩ := box4 (box_on HQ.out hb0)
        go_simp
        exact rfl
       simp only [zA, zB, zC, Act.put, zD, zE, zF]
       refine bt (f := 12) (i := 11) (v := ?vrby11) rfl (Or.inl ⟨((wanted_at rfl rfl rfl rfl).trans rfl), ?hyrby11⟩) (Below.refl _ _) ?restrby11
       case hyrby11 => intro W hW; go_simp; exact rfl
       simp only [zA, zB, zC, Act.put, zD, zE, zF]
       refine but_run (i := 12) (by kernel_rfl) rfl (by rfl) ?_
       simp only [zA, zB, zC]
       intro K HK
       go_wp2_with fail
       refine HK.out _ wr.drew (fun h => absurd rfl h) ?_
       clear HK
       refine but_done (by kernel_rfl) ?_
       replace HR := Lib.hid (HR.out.on (Below.drew1 _))
       replace HQ := Lib.hid (box_on HQ.out (Below.drew1 _))
       replace HW := Lib.hid (bstep HW.out (Below.drew1 _))
       generalize wr.drew = wd at *
       obtain ⟨g1, g2, g3, g4, g5⟩ := HR.out.cells HLEN.out
       obtain ⟨q0, q1, q2, q3, q4⟩ := box4 HQ.out
       obtain ⟨u0, u1, u2, u3⟩ := g5 k (Nat.lt_of_lt_of_eq (Nat.lt_succ_of_le hk) HLEN.out.symm)
       clear g5
       clear h0 d1 hjn i4 z1 y0
       have j1 : (k : Int) < (l.length : Int) + 1 := by omega
       have j2 : (0 : Int) ≤ (k : Int) := by omega
       go_wp2
       go_ret
       have hR2 := HR.out.setV (x := v) HLEN.out (show k < l.length + 1 by omega)
       rw [ins_last (by omega)] at hR2
       refine ⟨_, rfl, ?_, ?_⟩
       ·rw [HE.out]
        exact hR2.mono (by omega)
       ·exact (((HW.out.setCell (p := ⟨g, k * 4, none⟩) (by show w.heap.size ≤ g; omega) _).setCell (p := ⟨g, k * 4 + 1, none⟩) (by show w.heap.size ≤ g; omega) _).setCell (p := ⟨g, k * 4 + 2, none⟩) (by show w.heap.size ≤ g; omega) _).setCell (p := ⟨g, k * 4 + 3, none⟩) (by show w.heap.size ≤ g; omega) _
      ·have z1 : Go.Op.bytesLess l[j].a.toList v.a.toList = false := by rw [h3]; exact bless_irr _
       have z2 : (l[j].a.toList == v.a.toList) = true := by rw [h3]; exact beq_self_eq_true _
       clear h3
       go_upto_region 3 with (fail)
       refine but_begin (f := 12) (S := fun V => Below wr.drew.heap.size wr.drew V) (by kernel_rfl) ?_
       refine bt (f := 12) (i := 0) (v := ?vrdy0) rfl (Or.inl ⟨(by rfl), ?hyrdy0⟩) (Below.refl _ _) ?restrdy0
       case hyrdy0 => intro W hW; go_simp; exact rfl
       simp only [zA, zB, zC, Act.put, zD, zE, zF]
       refine bt (f := 12) (i := 1) (v := ?vrdy1) rfl (Or.inl ⟨(by rfl), ?hyrdy1⟩) (Below.refl _ _) ?restrdy1
       case hyrdy1 => intro W hW; go_simp; exact rfl
       simp only [zA, zB, zC, Act.put, zD, zE, zF]
       refine bt (f := 12) (i := 2) (v := ?vrdy2) rfl (Or.inl ⟨(by rfl), ?hyrdy2⟩) (Below.refl _ _) ?restrdy2
       case hyrdy2 => intro W hW; go_simp; exact rfl
       simp only [zA, zB, zC, Act.put, zD, zE, zF]
       refine bt (f := 12) (i := 3) (v := ?vrdy3) rfl (Or.inl ⟨((wanted_at rfl rfl rfl rfl).trans rfl), ?hyrdy3⟩) (Below.refl _ _) ?restrdy3
       case hyrdy3 => intro W hW; go_simp; exact rfl
       simp only [zA, zB, zC, Act.put, zD, zE, zF]
       refine bt (f := 12) (i := 4) (v := ?vrdy4) rfl (Or.inl ⟨((wanted_at rfl rfl rfl rfl).trans rfl), ?hyrdy4⟩) (Below.refl _ _) ?restrdy4
       case hyrdy4 => intro W hW; go_simp; exact rfl
       simp only [zA, zB, zC, Act.put, zD, zE, zF]
       refine bt (f := 12) (i := 5) (v := ?vrdy5) rfl (Or.inl ⟨((wanted_at rfl rfl rfl rfl).trans rfl), ?hyrdy5⟩) (Below.refl _ _) ?restrdy5
       case hyrdy5 => intro W hW; go_simp; exact rfl
       simp only [zA, zB, zC, Act.put, zD, zE, zF]
       refine bt (f := 12) (i := 6) (v := ?vrdy6) rfl (Or.inl ⟨((wanted_at rfl rfl rfl rfl).trans rfl), ?hyrdy6⟩) (Below.refl _ _) ?restrdy6
       case hyrdy6 => intro W hW; go_simp; exact rfl
       simp only [zA, zB, zC, Act.put, zD, zE, zF]
       refine bt (f := 12) (i := 7) (v := ?vrdy7) rfl (Or.inl ⟨((wanted_at rfl rfl rfl rfl).trans rfl), ?hyrdy7⟩) (Below.refl _ _) ?restrdy7
       case hyrdy7 => intro W hW; go_simp; exact rfl
       simp only [zA, zB, zC, Act.put, zD, zE, zF]
       refine bt (f := 12) (i := 8) (v := ?vrdy8) rfl (Or.inl ⟨((wanted_at rfl rfl rfl rfl).trans rfl), ?hyrdy8⟩) (Below.refl _ _) ?restrdy8
       case hyrdy8 =>
        intro W hW
        have hb0 : Below wr.heap.size wr W := bstep (Below.drew1 _) hW
        have z0 := (hb0.cell (p := ⟨g, j * 4, none⟩) g1).trans y0
        go_simp
        exact rfl
       simp only [zA, zB, zC, Act.put, zD, zE, zF]
       refine bt (f := 12) (i := 9) (v := ?vrdy9) rfl (Or.inl ⟨((wanted_at rfl rfl rfl rfl).trans rfl), ?hyrdy9⟩) (Below.refl _ _) ?restrdy9
       case hyrdy9 => intro W hW; go_simp; exact rfl
       simp only [zA, zB, zC, Act.put, zD, zE, zF]
       refine bt (f := 12) (i := 10) (v := ?vrdy10) rfl (Or.inl ⟨((wanted_at rfl rfl rfl rfl).trans rfl), ?hyrdy10⟩) (Below.refl _ _) ?restrdy10
       case hyrdy10 =>
        intro W hW
        have hb0 : Below wr.heap.size wr W := bstep (Below.drew1 _) hW
        obtain ⟨q0, q1, q2, q3, q4⟩ := box4 (box_on HQ.out hb0)
        go_simp
        exact rfl
       simp only [zA, zB, zC, Act.put, zD, zE, zF]
       refine bt (f := 12) (i := 11) (v := ?vrdy11) rfl (Or.inl ⟨((wanted_at rfl rfl rfl rfl).trans rfl), ?hyrdy11⟩) (Below.refl _ _) ?restrdy11
       case hyrdy11 => intro W hW; go_simp; exact rfl
       simp only [zA, zB, zC, Act.put, zD, zE, zF]
       refine but_run (i := 12) (by kernel_rfl) rfl (by rfl) ?_
       simp only [zA, zB, zC]
       intro K HK
       go_wp2_with fail
       refine HK.out _ wr.drew (fun h => absurd rfl h) ?_
       clear HK
       refine but_done (by kernel_rfl) ?_
       replace HR := Lib.hid (HR.out.on (Below.drew1 _))
       replace HQ := Lib.hid (box_on HQ.out (Below.drew1 _))
       replace HW := Lib.hid (bstep HW.out (Below.drew1 _))
       generalize wr.drew = wd at *
       obtain ⟨g1, g2, g3, g4, g5⟩ := HR.out.cells HLEN.out
       obtain ⟨q0, q1, q2, q3, q4⟩ := box4 HQ.out
       obtain ⟨u0, u1, u2, u3⟩ := g5 k (Nat.lt_of_lt_of_eq (Nat.lt_succ_of_le hk) HLEN.out.symm)
       clear g5
       clear h0 d1 hjn i4 z1 z2 y0
       have j1 : (k : Int) < (l.length : Int) + 1 := by omega
       have j2 : (0 : Int) ≤ (k : Int) := by omega
       go_wp2
       go_ret
       have hR2 := HR.out.setV (x := v) HLEN.out (show k < l.length + 1 by omega)
       rw [ins_last (by omega)] at hR2
       refine ⟨_, rfl, ?_, ?_⟩
       ·rw [HE.out]
        exact hR2.mono (by omega)
       ·exact (((HW.out.setCell (p := ⟨g, k * 4, none⟩) (by show w.heap.size ≤ g; omega) _).setCell (p := ⟨g, k * 4 + 1, none⟩) (by show w.heap.size ≤ g; omega) _).setCell (p := ⟨g, k * 4 + 2, none⟩) (by show w.heap.size ≤ g; omega) _).setCell (p := ⟨g, k * 4 + 3, none⟩) (by show w.heap.size ≤ g; omega) _
     ·have HE := Lib.hid (show bubK l l.length v = bubK l j v by rw [HI.out, HJ.out, bub_step hj hs])
      have z1 : Go.Op.bytesLess l[j].a.toList v.a.toList = false := by
       cases h : Go.Op.bytesLess l[j].a.toList v.a.toList
       ·rfl
       ·have := ltV_trans (x := v) (y := l[j]) (z := v) hs h
        rw [ltV_irr] at this
        cases this
      have z2 : (l[j].a.toList == v.a.toList) = false := by
       rw [beq_eq_false_iff_ne]
       intro h
       unfold ltV at hs
       rw [h, bless_irr] at hs
       cases hs
      clear y1 y2 y3 hs
      go_upto_region 3 with (fail)
      refine but_begin (f := 12) (S := fun V => Below wr.drew.heap.size wr.drew V) (by kernel_rfl) ?_
      refine bt (f := 12) (i := 0) (v := ?vrcy0) rfl (Or.inl ⟨(by rfl), ?hyrcy0⟩) (Below.refl _ _) ?restrcy0
      case hyrcy0 => intro W hW; go_simp; exact rfl
      simp only [zA, zB, zC, Act.put, zD, zE, zF]
      refine bt (f := 12) (i := 1) (v := ?vrcy1) rfl (Or.inl ⟨(by rfl), ?hyrcy1⟩) (Below.refl _ _) ?restrcy1
      case hyrcy1 => intro W hW; go_simp; exact rfl
      simp only [zA, zB, zC, Act.put, zD, zE, zF]
      refine bt (f := 12) (i := 2) (v := ?vrcy2) rfl (Or.inl ⟨(by rfl), ?hyrcy2⟩) (Below.refl _ _) ?restrcy2
      case hyrcy2 => intro W hW; go_simp; exact rfl
      simp only [zA, zB, zC, Act.put, zD, zE, zF]
      refine bt (f := 12) (i := 3) (v := ?vrcy3) rfl (Or.inl ⟨((wanted_at rfl rfl rfl rfl).trans rfl), ?hyrcy3⟩) (Below.refl _ _) ?restrcy3
      case hyrcy3 => intro W hW; go_simp; exact rfl
      simp only [zA, zB, zC, Act.put, zD, zE, zF]
      refine bt (f := 12) (i := 4) (v := ?vrcy4) rfl (Or.inl ⟨((wanted_at rfl rfl rfl rfl).trans rfl), ?hyrcy4⟩) (Below.refl _ _) ?restrcy4
      case hyrcy4 => intro W hW; go_simp; exact rfl
      simp only [zA, zB, zC, Act.put, zD, zE, zF]
      refine bt (f := 12) (i := 5) (v := ?vrcy5) rfl (Or.inl ⟨((wanted_at rfl rfl rfl rfl).trans rfl), ?hyrcy5⟩) (Below.refl _ _) ?restrcy5
      case hyrcy5 => intro W hW; go_simp; exact rfl
      simp only [zA, zB, zC, Act.put, zD, zE, zF]
      refine bt (f := 12) (i := 6) (v := ?vrcy6) rfl (Or.inl ⟨((wanted_at rfl rfl rfl rfl).trans rfl), ?hyrcy6⟩) (Below.refl _ _) ?restrcy6
      case hyrcy6 => intro W hW; go_simp; exact rfl
      simp only [zA, zB, zC, Act.put, zD, zE, zF]
      refine bt (f := 12) (i := 7) (v := ?vrcy7) rfl (Or.inl ⟨((wanted_at rfl rfl rfl rfl).trans rfl), ?hyrcy7⟩) (Below.refl _ _) ?restrcy7
      case hyrcy7 => intro W hW; go_simp; exact rfl
      simp only [zA, zB, zC, Act.put, zD, zE, zF]
      refine bt (f := 12) (i := 8) (v := ?vrcy8) rfl (Or.inl ⟨((wanted_at rfl rfl rfl rfl).trans rfl), ?hyrcy8⟩) (Below.refl _ _) ?restrcy8
      case hyrcy8 =>
       intro W hW
       have hb0 : Below wr.heap.size wr W := bstep (Below.drew1 _) hW
       have z0 := (hb0.cell (p := ⟨g, j * 4, none⟩) g1).trans y0
       go_simp
       exact rfl
      simp only [zA, zB, zC, Act.put, zD, zE, zF]
      refine bt (f := 12) (i := 9) (v := ?vrcy9) rfl (Or.inl ⟨((wanted_at rfl rfl rfl rfl).trans rfl), ?hyrcy9⟩) (Below.refl _ _) ?restrcy9
      case hyrcy9 => intro W hW; go_simp; exact rfl
      simp only [zA, zB, zC, Act.put, zD, zE, zF]
      refine bt (f := 12) (i := 10) (v := ?vrcy10) rfl (Or.inl ⟨((wanted_at rfl rfl rfl rfl).trans rfl), ?hyrcy10⟩) (Below.refl _ _) ?restrcy10
      case hyrcy10 =>
       intro W hW
       have hb0 : Below wr.heap.size wr W := bstep (Below.drew1 _) hW
       obtain ⟨q0, q1, q2, q3, q4⟩ := box4 (box_on HQ.out hb0)
       go_simp
       exact rfl
      simp only [zA, zB, zC, Act.put, zD, zE, zF]
      refine bt (f := 12) (i := 11) (v := ?vrcy11) rfl (Or.inl ⟨((wanted_at rfl rfl rfl rfl).trans rfl), ?hyrcy11⟩) (Below.refl _ _) ?restrcy11
      case hyrcy11 => intro W hW; go_simp; exact rfl
      simp only [zA, zB, zC, Act.put, zD, zE, zF]
      refine but_run (i := 12) (by kernel_rfl) rfl (by rfl) ?_
      simp only [zA, zB, zC]
      intro K HK
      go_wp2_with fail
      refine HK.out _ wr.drew (fun h => absurd rfl h) ?_
      clear HK
      refine but_done (by kernel_rfl) ?_
      replace HR := Lib.hid (HR.out.on (Below.drew1 _))
      replace HQ := Lib.hid (box_on HQ.out (Below.drew1 _))
      replace HW := Lib.hid (bstep HW.out (Below.drew1 _))
      generalize wr.drew = wd at *
      obtain ⟨g1, g2, g3, g4, g5⟩ := HR.out.cells HLEN.out
      obtain ⟨q0, q1, q2, q3, q4⟩ := box4 HQ.out
      obtain ⟨u0, u1, u2, u3⟩ := g5 k (Nat.lt_of_lt_of_eq (Nat.lt_succ_of_le hk) HLEN.out.symm)
      clear hjn
      have j1 : (k : Int) < (l.length : Int) + 1 := by omega
      have j2 : (0 : Int) ≤ (k : Int) := by omega
      obtain ⟨y0, y1, y2, y3⟩ := g5 j hj2
      rw [ins_get (show j < k by omega) (by omega)] at y0 y1 y2 y3
      clear g5
      go_wp2
      have hR2 := HR.out.setV (x := l[j]) HLEN.out (show k < l.length + 1 by omega)
      have e2 : (l.take k ++ x :: l.drop k).set k l[j] = l.take j ++ l[j] :: l.drop j := by rw [HJ.out]; exact ins_shift hj x
      rw [e2] at hR2
      go_roundw
      case rel => exact ⟨j, l[j], by omega, by go_num, HE, Lib.hid hR2, Lib.hid ((((HW.out.setCell (p := ⟨g, k * 4, none⟩) (by show w.heap.size ≤ g; omega) _).setCell (p := ⟨g, k * 4 + 1, none⟩) (by show w.heap.size ≤ g; omega) _).setCell (p := ⟨g, k * 4 + 2, none⟩) (by show w.heap.size ≤ g; omega) _).setCell (p := ⟨g, k * 4 + 3, none⟩) (by show w.heap.size ≤ g; omega) _), Lib.hid (box_far (box_far (box_far (box_far HQ.out (by omega)) (by omega)) (by omega)) (by omega))⟩
      case measure => simp [intOf]; omega
 ·simp only [zA, zB, zC]
  intro K HK
  go_wp2_with fail
  have hScq1 : (fun V => Below wb.heap.size wb V) (Udc.alloc (.cells #[.string v.a, .int .i64 v.b, .int .i64 v.c, .bool v.d] 41)) := bstep hS0c (bal1 _ _)
  refine HK.out _ _ (fun _ => hScq1) ?_
  clear HK
  have hBcq1 := bal1 Udc (.cells #[.string v.a, .int .i64 v.b, .int .i64 v.c, .bool v.d] 41)
  have hzcq1 : Udc.heap.size + 1 ≤ (Udc.alloc (.cells #[.string v.a, .int .i64 v.b, .int .i64 v.c, .bool v.d] 41)).heap.size := by simp
  have AV := Lib.hid (At.vol Udc v 41)
  generalize Udc.alloc (.cells #[.string v.a, .int .i64 v.b, .int .i64 v.c, .bool v.d] 41) = Vncq1 at *
  refine but_run (i := 0) (by kernel_rfl) rfl (by rfl) ?_
  simp only [zA, zB, zC]
  intro K HK
  go_wp2_with fail
  have hScq2 : (fun V => Below wb.heap.size wb V) (Vncq1.alloc (.cells #[] 41)) := bstep hScq1 (bal1 _ _)
  refine HK.out _ _ (fun _ => hScq2) ?_
  clear HK
  have hBcq2 := bal1 Vncq1 (.cells #[] 41)
  have hzcq2 : Vncq1.heap.size + 1 ≤ (Vncq1.alloc (.cells #[] 41)).heap.size := by simp
  replace AV := Lib.hid (AV.out.on hBcq2)
  have hzacq2 := (hScq1).size
  have R0 := Lib.hid (RowVol.lit Vncq1)
  generalize Vncq1.alloc (.cells #[] 41) = Vncq2 at *
  refine but_run (i := 2) (by kernel_rfl) rfl (by rfl) ?_
  simp only [zA, zB, zC]
  intro K HK
  refine operAppVol _ (by rfl) (.tmp 7) (.tmp 8) (by rfl) Vncq1.heap.size _ [] (by rfl) R0.out A l.length c l (by rfl) (by rfl) (HAT.out.on hScq2) (by simp; omega) (by omega) ?_
  intro vcq3 Vcq3 ocq3 bcq3 gcq3 acq3
  rw [List.nil_append] at ocq3
  obtain ⟨G1, e1, rfl, _, _⟩ := ocq3.shape
  have R1 := Lib.hid ocq3
  have hScq3 : (fun V => Below wb.heap.size wb V) Vcq3 := (hScq2).trans (Below.mono bcq3 (by omega))
  refine HK.out _ _ (fun _ => hScq3) ?_
  clear HK
  have hzcq3 := bcq3.size
  replace AV := Lib.hid (AV.out.only gcq3 (by omega) (fun e => by simp [Value.ownBlock] at e; omega))
  simp only [zA, zB, zC, Act.put, zD, zE, zF]
  refine but_run (i := 5) (by kernel_rfl) rfl (by rfl) ?_
  simp only [zA, zB, zC]
  intro K HK
  refine operAppVol _ (by rfl) (.tmp 9) (.tmp 11) (by rfl) Vncq1.heap.size _ l (by rfl) R1.out (some ⟨Udc.heap.size, 0, none⟩) 1 1 [v] (by rfl) (by rfl) AV.out (by simp; omega) (by omega) ?_
  intro vcq4 Vcq4 ocq4 bcq4 gcq4 acq4
  obtain ⟨G2, e2, hG2⟩ := row_shape (ocq4 : World.ownsRow _ _ _ _ _ _ _) (by simp)
  subst hG2
  have hml : (l ++ [v]).length = l.length + 1 := by simp
  rw [hml]
  have R2 := Lib.hid (show RowVol Vcq4 Vncq1.heap.size (.slice (some ⟨G2, 0, none⟩) (l.length + 1) e2) (l ++ [v]) from hml ▸ ocq4)
  clear hml
  have hScq4 : (fun V => Below wb.heap.size wb V) Vcq4 := (hScq3).trans (Below.mono bcq4 (by omega))
  refine HK.out _ _ (fun _ => hScq4) ?_
  clear HK
  have hzcq4 := bcq4.size
  simp only [zA, zB, zC, Act.put, zD, zE, zF]
  refine but_run (i := 6) (by kernel_rfl) rfl (by rfl) ?_
  simp only [zA, zB, zC]
  intro K HK
  go_wp2_with fail
  refine HK.out _ _ (fun h => absurd rfl h) ?_
  clear HK
  refine but_done (by kernel_rfl) ?_
  have HBB := Lib.hid (bstep HB.out hScq4)
  have hRB := Lib.hid (R2.out.mono (base' := wb.heap.size) (by omega))
  have QW := Lib.hid (box_on QV.out hScq4)
  clear R2 QV HB HAT
  generalize Vcq4 = W at *
  go_wp2
  generalize G2 = g at *
  generalize e2 = cap at *
  go_loopw [6] (fun i wr => ∃ (k : Nat) (x : VolD), k ≤ l.length ∧ i = .int .i64 k ∧ Hid (bubK l l.length v = bubK l k v) ∧ Hid (RowVol wr wb.heap.size (.slice (some ⟨g, 0, none⟩) (l.length + 1) cap) (l.take k ++ x :: l.drop k)) ∧ Hid (Below w.heap.size w wr) ∧ Hid (wr.heap[w.heap.size]? = some (.cells #[.string v.a, .int .i64 v.b, .int .i64 v.c, .bool v.d] 41 (0, 0)))) (fun i _ => (intOf i).toNat)
  case atStart => exact ⟨l.length, v, Nat.le_refl _, by go_num, Lib.hid rfl, Lib.hid (by have := hRB.out; simpa using this), HBB, QW⟩
  case round =>
   clear hRB HBB QW
   obtain ⟨k, x, hk, rfl, HI, HR, HW, HQ⟩ := hrel
   have hzr := HW.out.size
   have hlen : (l.take k ++ x :: l.drop k).length = l.length + 1 := by simp; omega
   obtain ⟨g1, g2, g3, g4, g5⟩ := HR.out.cells hlen
   have HLEN := Lib.hid hlen
   obtain ⟨q0, q1, q2, q3, q4⟩ := box4 HQ.out
   have hgq : g ≠ w.heap.size := by omega
   by_cases h0 : k = 0
   ·have HE := Lib.hid (show bubK l l.length v = k by rw [HI.out, h0, bub_zero])
    have d1 : decide (0 < k) = false := decide_eq_false (by omega)
    clear g5 hlen
    go_upto_region 3 with (fail)
    refine but_begin (f := 12) (S := fun V => Below wr.drew.heap.size wr.drew V) (by kernel_rfl) ?_
    refine bt (f := 12) (i := 0) (v := ?vraz0) rfl (Or.inl ⟨(by rfl), ?hyraz0⟩) (Below.refl _ _) ?restraz0
    case hyraz0 => intro W hW; go_simp; exact rfl
    simp only [zA, zB, zC, Act.put, zD, zE, zF]
    refine bt (f := 12) (i := 1) (v := ?vraz1) rfl (Or.inl ⟨(by rfl), ?hyraz1⟩) (Below.refl _ _) ?restraz1
    case hyraz1 => intro W hW; go_simp; exact rfl
    simp only [zA, zB, zC, Act.put, zD, zE, zF]
    refine bt (f := 12) (i := 2) (v := ?vraz2) rfl (Or.inl ⟨(by rfl), ?hyraz2⟩) (Below.refl _ _) ?restraz2
    case hyraz2 => intro W hW; go_simp; exact rfl
    simp only [zA, zB, zC, Act.put, zD, zE, zF]
    refine bt (f := 12) (i := 3) (v := undef) rfl (Or.inr ⟨((wanted_at rfl rfl rfl rfl).trans rfl), rfl⟩) (Below.refl _ _) ?_
    simp only [zA, zB, zC, Act.put, zD, zE, zF]
    refine bt (f := 12) (i := 4) (v := undef) rfl (Or.inr ⟨((wanted_at rfl rfl rfl rfl).trans rfl), rfl⟩) (Below.refl _ _) ?_
    simp only [zA, zB, zC, Act.put, zD, zE, zF]
    refine bt (f := 12) (i := 5) (v := undef) rfl (Or.inr ⟨((wanted_at rfl rfl rfl rfl).trans rfl), rfl⟩) (Below.refl _ _) ?_
    simp only [zA, zB, zC, Act.put, zD, zE, zF]
    refine bt (f := 12) (i := 6) (v := undef) rfl (Or.inr ⟨((wanted_at rfl rfl rfl rfl).trans rfl), rfl⟩) (Below.refl _ _) ?_
    simp only [zA, zB, zC, Act.put, zD, zE, zF]
    refine bt (f := 12) (i := 7) (v := undef) rfl (Or.inr ⟨((wanted_at rfl rfl rfl rfl).trans rfl), rfl⟩) (Below.refl _ _) ?_
    simp only [zA, zB, zC, Act.put, zD, zE, zF]
    refine bt (f := 12) (i := 8) (v := undef) rfl (Or.inr ⟨((wanted_at rfl rfl rfl rfl).trans rfl), rfl⟩) (Below.refl _ _) ?_
    simp only [zA, zB, zC, Act.put, zD, zE, zF]
    refine bt (f := 12) (i := 9) (v := undef) rfl (Or.inr ⟨((wanted_at rfl rfl rfl rfl).trans rfl), rfl⟩) (Below.refl _ _) ?_
    simp only [zA, zB, zC, Act.put, zD, zE, zF]
    refine bt (f := 12) (i := 10) (v := undef) rfl (Or.inr ⟨((wanted_at rfl rfl rfl rfl).trans rfl), rfl⟩) (Below.refl _ _) ?_
    simp only [zA, zB, zC, Act.put, zD, zE, zF]
    refine bt (f := 12) (i := 11) (v := undef) rfl (Or.inr ⟨((wanted_at rfl rfl rfl rfl).trans rfl), rfl⟩) (Below.refl _ _) ?_
    simp only [zA, zB, zC, Act.put, zD, zE, zF]
    refine but_run (i := 12) (by kernel_rfl) rfl (by rfl) ?_
    simp only [zA, zB, zC]
    intro K HK
    go_wp2_with fail
    refine HK.out _ wr.drew (fun h => absurd rfl h) ?_
    clear HK
    refine but_done (by kernel_rfl) ?_
    replace HR := Lib.hid (HR.out.on (Below.drew1 _))
    replace HQ := Lib.hid (box_on HQ.out (Below.drew1 _))
    replace HW := Lib.hid (bstep HW.out (Below.drew1 _))
    generalize wr.drew = wd at *
    obtain ⟨g1, g2, g3, g4, g5⟩ := HR.out.cells HLEN.out
    obtain ⟨q0, q1, q2, q3, q4⟩ := box4 HQ.out
    obtain ⟨u0, u1, u2, u3⟩ := g5 k (Nat.lt_of_lt_of_eq (Nat.lt_succ_of_le hk) HLEN.out.symm)
    clear g5
    clear h0 d1
    have j1 : (k : Int) < (l.length : Int) + 1 := by omega
    have j2 : (0 : Int) ≤ (k : Int) := by omega
    go_wp2
    go_ret
    have hR2 := HR.out.setV (x := v) HLEN.out (show k < l.length + 1 by omega)
    rw [ins_last (by omega)] at hR2
    refine ⟨_, rfl, ?_, ?_⟩
    ·rw [HE.out]
     exact hR2.mono (by omega)
    ·exact (((HW.out.setCell (p := ⟨g, k * 4, none⟩) (by show w.heap.size ≤ g; omega) _).setCell (p := ⟨g, k * 4 + 1, none⟩) (by show w.heap.size ≤ g; omega) _).setCell (p := ⟨g, k * 4 + 2, none⟩) (by show w.heap.size ≤ g; omega) _).setCell (p := ⟨g, k * 4 + 3, none⟩) (by show w.heap.size ≤ g; omega) _
   ·obtain ⟨j, hj0⟩ : ∃ j, k = j + 1 := ⟨k - 1, by omega⟩
    have HJ := Lib.hid hj0
    have d1 : decide (0 < k) = true := decide_eq_true (by omega)
    have hj : j < l.length := by omega
    have hjk : j < k := by omega
    have hj2 : j < (l.take k ++ x :: l.drop k).length := by rw [hlen]; omega
    obtain ⟨y0, y1, y2, y3⟩ := g5 j hj2
    rw [ins_get hjk hk] at y0 y1 y2 y3
    have i1 : (j : Int) < (l.length : Int) + 1 := by omega
    have i2 : (0 : Int) ≤ (j : Int) := by omega
    have i4 : IntKind.i64.wrap ((k : Int) - 1) = (j : Int) := by rw [IntKind.wrap_i64]; omega
    have hjn : k - 1 = j := by omega
    clear g5 hlen hj0
    cases hs : ltV v l[j]
    ·have HE := Lib.hid (show bubK l l.length v = k by rw [HI.out, HJ.out, bub_stop hj hs])
     have h3 : Go.Op.bytesLess l[j].a.toList v.a.toList = true ∨ l[j].a.toList = v.a.toList := by
      rcases bless_tri l[j].a.toList v.a.toList with h | h | h
      ·exact .inl h
      ·exact .inr h
      ·have : ltV v l[j] = true := h
       rw [hs] at this
       cases this
     clear y1 y2 y3 hs
     rcases h3 with z1 | h3
     ·skip
      go_upto_region 3 with (fail)
      refine but_begin (f := 12) (S := fun V => Below wr.drew.heap.size wr.drew V) (by kernel_rfl) ?_
      refine bt (f := 12) (i := 0) (v := ?vrbz0) rfl (Or.inl ⟨(by rfl), ?hyrbz0⟩) (Below.refl _ _) ?restrbz0
      case hyrbz0 => intro W hW; go_simp; exact rfl
      simp only [zA, zB, zC, Act.put, zD, zE, zF]
      refine bt (f := 12) (i := 1) (v := ?vrbz1) rfl (Or.inl ⟨(by rfl), ?hyrbz1⟩) (Below.refl _ _) ?restrbz1
      case hyrbz1 => intro W hW; go_simp; exact rfl
      simp only [zA, zB, zC, Act.put, zD, zE, zF]
      refine bt (f := 12) (i := 2) (v := ?vrbz2) rfl (Or.inl ⟨(by rfl), ?hyrbz2⟩) (Below.refl _ _) ?restrbz2
      case hyrbz2 => intro W hW; go_simp; exact rfl
      simp only [zA, zB, zC, Act.put, zD, zE, zF]
      refine bt (f := 12) (i := 3) (v := ?vrbz3) rfl (Or.inl ⟨((wanted_at rfl rfl rfl rfl).trans rfl), ?hyrbz3⟩) (Below.refl _ _) ?restrbz3
      case hyrbz3 => intro W hW; go_simp; exact rfl
      simp only [zA, zB, zC, Act.put, zD, zE, zF]
      refine bt (f := 12) (i := 4) (v := ?vrbz4) rfl (Or.inl ⟨((wanted_at rfl rfl rfl rfl).trans rfl), ?hyrbz4⟩) (Below.refl _ _) ?restrbz4
      case hyrbz4 => intro W hW; go_simp; exact rfl
      simp only [zA, zB, zC, Act.put, zD, zE, zF]
      refine bt (f := 12) (i := 5) (v := ?vrbz5) rfl (Or.inl ⟨((wanted_at rfl rfl rfl rfl).trans rfl), ?hyrbz5⟩) (Below.refl _ _) ?restrbz5
      case hyrbz5 => intro W hW; go_simp; exact rfl
      simp only [zA, zB, zC, Act.put, zD, zE, zF]
      refine bt (f := 12) (i := 6) (v := ?vrbz6) rfl (Or.inl ⟨((wanted_at rfl rfl rfl rfl).trans rfl), ?hyrbz6⟩) (Below.refl _ _) ?restrbz6
      case hyrbz6 => intro W hW; go_simp; exact rfl
      simp only [zA, zB, zC, Act.put, zD, zE, zF]
      refine bt (f := 12) (i := 7) (v := ?vrbz7) rfl (Or.inl ⟨((wanted_at rfl rfl rfl rfl).trans rfl), ?hyrbz7⟩) (Below.refl _ _) ?restrbz7
      case hyrbz7 => intro W hW; go_simp; exact rfl
      simp only [zA, zB, zC, Act.put, zD, zE, zF]
      refine bt (f := 12) (i := 8) (v := ?vrbz8) rfl (Or.inl ⟨((wanted_at rfl rfl rfl rfl).trans rfl), ?hyrbz8⟩) (Below.refl _ _) ?restrbz8
      case hyrbz8 =>
       intro W hW
       have hb0 : Below wr.heap.size wr W := bstep (Below.drew1 _) hW
       have z0 := (hb0.cell (p := ⟨g, j * 4, none⟩) g1).trans y0
       go_simp
       exact rfl
      simp only [zA, zB, zC, Act.put, zD, zE, zF]
      refine bt (f := 12) (i := 9) (v := ?vrbz9) rfl (Or.inl ⟨((wanted_at rfl rfl rfl rfl).trans rfl), ?hyrbz9⟩) (Below.refl _ _) ?restrbz9
      case hyrbz9 => intro W hW; go_simp; exact rfl
      simp only [zA, zB, zC, Act.put, zD, zE, zF]
      refine bt (f := 12) (i := 10) (v := ?vrbz10) rfl (Or.inl ⟨((wanted_at rfl rfl rfl rfl).trans rfl), ?hyrbz10⟩) (Below.refl _ _) ?restrbz10
      case hyrbz10 =>
       intro W hW
       have hb0 : Below wr.heap.size wr W := bstep (Below.drew1 _) hW
       obtain ⟨q0, q1, q2, q3, q4⟩ := box4 (box_on HQ.out hb0)
       go_simp
       exact rfl
      simp only [zA, zB, zC, Act.put, zD, zE, zF]
      refine bt (f := 12) (i := 11) (v := ?vrbz11) rfl (Or.inl ⟨((wanted_at rfl rfl rfl rfl).trans rfl), ?hyrbz11⟩) (Below.refl _ _) ?restrbz11
      case hyrbz11 => intro W hW; go_simp; exact rfl
      simp only [zA, zB, zC, Act.put, zD, zE, zF]
      refine but_run (i := 12) (by kernel_rfl) rfl (by rfl) ?_
      simp only [zA, zB, zC]
      intro K HK
      go_wp2_with fail
      refine HK.out _ wr.drew (fun h => absurd rfl h) ?_
      clear HK
      refine but_done (by kernel_rfl) ?_
      replace HR := Lib.hid (HR.out.on (Below.drew1 _))
      replace HQ := Lib.hid (box_on HQ.out (Below.drew1 _))
      replace HW := Lib.hid (bstep HW.out (Below.drew1 _))
      generalize wr.drew = wd at *
      obtain ⟨g1, g2, g3, g4, g5⟩ := HR.out.cells HLEN.out
      obtain ⟨q0, q1, q2, q3, q4⟩ := box4 HQ.out
      obtain ⟨u0, u1, u2, u3⟩ := g5 k (Nat.lt_of_lt_of_eq (Nat.lt_succ_of_le hk) HLEN.out.symm)
      clear g5
      clear h0 d1 hjn i4 z1 y0
      have j1 : (k : Int) < (l.length : Int) + 1 := by omega
      have j2 : (0 : Int) ≤ (k : Int) := by omega
      go_wp2
      go_ret
      have hR2 := HR.out.setV (x := v) HLEN.out (show k < l.length + 1 by omega)
      rw [ins_last (by omega)] at hR2
      refine ⟨_, rfl, ?_, ?_⟩
      ·rw [HE.out]
       exact hR2.mono (by omega)
      ·exact (((HW.out.setCell (p := ⟨g, k * 4, none⟩) (by show w.heap.size ≤ g; omega) _).setCell (p := ⟨g, k * 4 + 1, none⟩) (by show w.heap.size ≤ g; omega) _).setCell (p := ⟨g, k * 4 + 2, none⟩) (by show w.heap.size ≤ g; omega) _).setCell (p := ⟨g, k * 4 + 3, none⟩) (by show w.heap.size ≤ g; omega) _
     ·have z1 : Go.Op.bytesLess l[j].a.toList v.a.toList = false := by rw [h3]; exact bless_irr _
      have z2 : (l[j].a.toList == v.a.toList) = true := by rw [h3]; exact beq_self_eq_true _
      clear h3
      go_upto_region 3 with (fail)
      refine but_begin (f := 12) (S := fun V => Below wr.drew.heap.size wr.drew V) (by kernel_rfl) ?_
      refine bt (f := 12) (i := 0) (v := ?vrdz0) rfl (Or.inl ⟨(by rfl), ?hyrdz0⟩) (Below.refl _ _) ?restrdz0
      case hyrdz0 => intro W hW; go_simp; exact rfl
      simp only [zA, zB, zC, Act.put, zD, zE, zF]
      refine bt (f := 12) (i := 1) (v := ?vrdz1) rfl (Or.inl ⟨(by rfl), ?hyrdz1⟩) (Below.refl _ _) ?restrdz1
      case hyrdz1 => intro W hW; go_simp; exact rfl
      simp only [zA, zB, zC, Act.put, zD, zE, zF]
      refine bt (f := 12) (i := 2) (v := ?vrdz2) rfl (Or.inl ⟨(by rfl), ?hyrdz2⟩) (Below.refl _ _) ?restrdz2
      case hyrdz2 => intro W hW; go_simp; exact rfl
      simp only [zA, zB, zC, Act.put, zD, zE, zF]
      refine bt (f := 12) (i := 3) (v := ?vrdz3) rfl (Or.inl ⟨((wanted_at rfl rfl rfl rfl).trans rfl), ?hyrdz3⟩) (Below.refl _ _) ?restrdz3
      case hyrdz3 => intro W hW; go_simp; exact rfl
      simp only [zA, zB, zC, Act.put, zD, zE, zF]
      refine bt (f := 12) (i := 4) (v := ?vrdz4) rfl (Or.inl ⟨((wanted_at rfl rfl rfl rfl).trans rfl), ?hyrdz4⟩) (Below.refl _ _) ?restrdz4
      case hyrdz4 => intro W hW; go_simp; exact rfl
      simp only [zA, zB, zC, Act.put, zD, zE, zF]
      refine bt (f := 12) (i := 5) (v := ?vrdz5) rfl (Or.inl ⟨((wanted_at rfl rfl rfl rfl).trans rfl), ?hyrdz5⟩) (Below.refl _ _) ?restrdz5
      case hyrdz5 => intro W hW; go_simp; exact rfl
      simp only [zA, zB, zC, Act.put, zD, zE, zF]
      refine bt (f := 12) (i := 6) (v := ?vrdz6) rfl (Or.inl ⟨((wanted_at rfl rfl rfl rfl).trans rfl), ?hyrdz6⟩) (Below.refl _ _) ?restrdz6
      case hyrdz6 => intro W hW; go_simp; exact rfl
      simp only [zA, zB, zC, Act.put, zD, zE, zF]
      refine bt (f := 12) (i := 7) (v := ?vrdz7) rfl (Or.inl ⟨((wanted_at rfl rfl rfl rfl).trans rfl), ?hyrdz7⟩) (Below.refl _ _) ?restrdz7
      case hyrdz7 => intro W hW; go_simp; exact rfl
      simp only [zA, zB, zC, Act.put, zD, zE, zF]
      refine bt (f := 12) (i := 8) (v := ?vrdz8) rfl (Or.inl ⟨((wanted_at rfl rfl rfl rfl).trans rfl), ?hyrdz8⟩) (Below.refl _ _) ?restrdz8
      case hyrdz8 =>
       intro W hW
       have hb0 : Below wr.heap.size wr W := bstep (Below.drew1 _) hW
       have z0 := (hb0.cell (p := ⟨g, j * 4, none⟩) g1).trans y0
       go_simp
       exact rfl
      simp only [zA, zB, zC, Act.put, zD, zE, zF]
      refine bt (f := 12) (i := 9) (v := ?vrdz9) rfl (Or.inl ⟨((wanted_at rfl rfl rfl rfl).trans rfl), ?hyrdz9⟩) (Below.refl _ _) ?restrdz9
      case hyrdz9 => intro W hW; go_simp; exact rfl
      simp only [zA, zB, zC, Act.put, zD, zE, zF]
      refine bt (f := 12) (i := 10) (v := ?vrdz10) rfl (Or.inl ⟨((wanted_at rfl rfl rfl rfl).trans rfl), ?hyrdz10⟩) (Below.refl _ _) ?restrdz10
      case hyrdz10 =>
       intro W hW
       have hb0 : Below wr.heap.size wr W := bstep (Below.drew1 _) hW
       obtain ⟨q0, q1, q2, q3, q4⟩ := box4 (box_on HQ.out hb0)
       go_simp
       exact rfl
      simp only [zA, zB, zC, Act.put, zD, zE, zF]
      refine bt (f := 12) (i := 11) (v := ?vrdz11) rfl (Or.inl ⟨((wanted_at rfl rfl rfl rfl).trans rfl), ?hyrdz11⟩) (Below.refl _ _) ?restrdz11
      case hyrdz11 => intro W hW; go_simp; exact rfl
      simp only [zA, zB, zC, Act.put, zD, zE, zF]
      refine but_run (i := 12) (by kernel_rfl) rfl (by rfl) ?_
      simp only [zA, zB, zC]
      intro K HK
      go_wp2_with fail
      refine HK.out _ wr.drew (fun h => absurd rfl h) ?_
      clear HK
      refine but_done (by kernel_rfl) ?_
      replace HR := Lib.hid (HR.out.on (Below.drew1 _))
      replace HQ := Lib.hid (box_on HQ.out (Below.drew1 _))
      replace HW := Lib.hid (bstep HW.out (Below.drew1 _))
      generalize wr.drew = wd at *
      obtain ⟨g1, g2, g3, g4, g5⟩ := HR.out.cells HLEN.out
      obtain ⟨q0, q1, q2, q3, q4⟩ := box4 HQ.out
      obtain ⟨u0, u1, u2, u3⟩ := g5 k (Nat.lt_of_lt_of_eq (Nat.lt_succ_of_le hk) HLEN.out.symm)
      clear g5
      clear h0 d1 hjn i4 z1 z2 y0
      have j1 : (k : Int) < (l.length : Int) + 1 := by omega
      have j2 : (0 : Int) ≤ (k : Int) := by omega
      go_wp2
      go_ret
      have hR2 := HR.out.setV (x := v) HLEN.out (show k < l.length + 1 by omega)
      rw [ins_last (by omega)] at hR2
      refine ⟨_, rfl, ?_, ?_⟩
      ·rw [HE.out]
       exact hR2.mono (by omega)
      ·exact (((HW.out.setCell (p := ⟨g, k * 4, none⟩) (by show w.heap.size ≤ g; omega) _).setCell (p := ⟨g, k * 4 + 1, none⟩) (by show w.heap.size ≤ g; omega) _).setCell (p := ⟨g, k * 4 + 2, none⟩) (by show w.heap.size ≤ g; omega) _).setCell (p := ⟨g, k * 4 + 3, none⟩) (by show w.heap.size ≤ g; omega) _
    ·have HE := Lib.hid (show bubK l l.length v = bubK l j v by rw [HI.out, HJ.out, bub_step hj hs])
     have z1 : Go.Op.bytesLess l[j].a.toList v.a.toList = false := by
      cases h : Go.Op.bytesLess l[j].a.toList v.a.toList
      ·rfl
      ·have := ltV_trans (x := v) (y := l[j]) (z := v) hs h
       rw [ltV_irr] at this
       cases this
     have z2 : (l[j].a.toList == v.a.toList) = false := by
      rw [beq_eq_false_iff_ne]
      intro h
      unfold ltV at hs
      rw [h, bless_irr] at hs
      cases hs
     clear y1 y2 y3 hs
     go_upto_region 3 with (fail)
     refine but_begin (f := 12) (S := fun V => Below wr.drew.heap.size wr.drew V) (by kernel_rfl) ?_
     refine bt (f := 12) (i := 0) (v := ?vrcz0) rfl (Or.inl ⟨(by rfl), ?hyrcz0⟩) (Below.refl _ _) ?restrcz0
     case hyrcz0 => intro W hW; go_simp; exact rfl
     simp only [zA, zB, zC, Act.put, zD, zE, zF]
     refine bt (f := 12) (i := 1) (v := ?vrcz1) rfl (Or.inl ⟨(by rfl), ?hyrcz1⟩) (Below.refl _ _) ?restrcz1
     case hyrcz1 => intro W hW; go_simp; exact rfl
     simp only [zA, zB, zC, Act.put, zD, zE, zF]
     refine bt (f := 12) (i := 2) (v := ?vrcz2) rfl (Or.inl ⟨(by rfl), ?hyrcz2⟩) (Below.refl _ _) ?restrcz2
     case hyrcz2 => intro W hW; go_simp; exact rfl
     simp only [zA, zB, zC, Act.put, zD, zE, zF]
     refine bt (f := 12) (i := 3) (v := ?vrcz3) rfl (Or.inl ⟨((wanted_at rfl rfl rfl rfl).trans rfl), ?hyrcz3⟩) (Below.refl _ _) ?restrcz3
     case hyrcz3 => intro W hW; go_simp; exact rfl
     simp only [zA, zB, zC, Act.put, zD, zE, zF]
     refine bt (f := 12) (i := 4) (v := ?vrcz4) rfl (Or.inl ⟨((wanted_at rfl rfl rfl rfl).trans rfl), ?hyrcz4⟩) (Below.refl _ _) ?restrcz4
     case hyrcz4 => intro W hW; go_simp; exact rfl
     simp only [zA, zB, zC, Act.put, zD, zE, zF]
     refine bt (f := 12) (i := 5) (v := ?vrcz5) rfl (Or.inl ⟨((wanted_at rfl rfl rfl rfl).trans rfl), ?hyrcz5⟩) (Below.refl _ _) ?restrcz5
     case hyrcz5 => intro W hW; go_simp; exact rfl
     simp only [zA, zB, zC, Act.put, zD, zE, zF]
     refine bt (f := 12) (i := 6) (v := ?vrcz6) rfl (Or.inl ⟨((wanted_at rfl rfl rfl rfl).trans rfl), ?hyrcz6⟩) (Below.refl _ _) ?restrcz6
     case hyrcz6 => intro W hW; go_simp; exact rfl
     simp only [zA, zB, zC, Act.put, zD, zE, zF]
     refine bt (f := 12) (i := 7) (v := ?vrcz7) rfl (Or.inl ⟨((wanted_at rfl rfl rfl rfl).trans rfl), ?hyrcz7⟩) (Below.refl _ _) ?restrcz7
     case hyrcz7 => intro W hW; go_simp; exact rfl
     simp only [zA, zB, zC, Act.put, zD, zE, zF]
     refine bt (f := 12) (i := 8) (v := ?vrcz8) rfl (Or.inl ⟨((wanted_at rfl rfl rfl rfl).trans rfl), ?hyrcz8⟩) (Below.refl _ _) ?restrcz8
     case hyrcz8 =>
      intro W hW
      have hb0 : Below wr.heap.size wr W := bstep (Below.drew1 _) hW
      have z0 := (hb0.cell (p := ⟨g, j * 4, none⟩) g1).trans y0
      go_simp
      exact rfl
     simp only [zA, zB, zC, Act.put, zD, zE, zF]
     refine bt (f := 12) (i := 9) (v := ?vrcz9) rfl (Or.inl ⟨((wanted_at rfl rfl rfl rfl).trans rfl), ?hyrcz9⟩) (Below.refl _ _) ?restrcz9
     case hyrcz9 => intro W hW; go_simp; exact rfl
     simp only [zA, zB, zC, Act.put, zD, zE, zF]
     refine bt (f := 12) (i := 10) (v := ?vrcz10) rfl (Or.inl ⟨((wanted_at rfl rfl rfl rfl).trans rfl), ?hyrcz10⟩) (Below.refl _ _) ?restrcz10
     case hyrcz10 =>
      intro W hW
      have hb0 : Below wr.heap.size wr W := bstep (Below.drew1 _) hW
      obtain ⟨q0, q1, q2, q3, q4⟩ := box4 (box_on HQ.out hb0)
      go_simp
      exact rfl
     simp only [zA, zB, zC, Act.put, zD, zE, zF]
     refine bt (f := 12) (i := 11) (v := ?vrcz11) rfl (Or.inl ⟨((wanted_at rfl rfl rfl rfl).trans rfl), ?hyrcz11⟩) (Below.refl _ _) ?restrcz11
     case hyrcz11 => intro W hW; go_simp; exact rfl
     simp only [zA, zB, zC, Act.put, zD, zE, zF]
     refine but_run (i := 12) (by kernel_rfl) rfl (by rfl) ?_
     simp only [zA, zB, zC]
     intro K HK
     go_wp2_with fail
     refine HK.out _ wr.drew (fun h => absurd rfl h) ?_
     clear HK
     refine but_done (by kernel_rfl) ?_
     replace HR := Lib.hid (HR.out.on (Below.drew1 _))
     replace HQ := Lib.hid (box_on HQ.out (Below.drew1 _))
     replace HW := Lib.hid (bstep HW.out (Below.drew1 _))
     generalize wr.drew = wd at *
     obtain ⟨g1, g2, g3, g4, g5⟩ := HR.out.cells HLEN.out
     obtain ⟨q0, q1, q2, q3, q4⟩ := box4 HQ.out
     obtain ⟨u0, u1, u2, u3⟩ := g5 k (Nat.lt_of_lt_of_eq (Nat.lt_succ_of_le hk) HLEN.out.symm)
     clear hjn
     have j1 : (k : Int) < (l.length : Int) + 1 := by omega
     have j2 : (0 : Int) ≤ (k : Int) := by omega
     obtain ⟨y0, y1, y2, y3⟩ := g5 j hj2
     rw [ins_get (show j < k by omega) (by omega)] at y0 y1 y2 y3
     clear g5
     go_wp2
     have hR2 := HR.out.setV (x := l[j]) HLEN.out (show k < l.length + 1 by omega)
     have e2 : (l.take k ++ x :: l.drop k).set k l[j] = l.take j ++ l[j] :: l.drop j := by rw [HJ.out]; exact ins_shift hj x
     rw [e2] at hR2
     go_roundw
     case rel => exact ⟨j, l[j], by omega, by go_num, HE, Lib.hid hR2, Lib.hid ((((HW.out.setCell (p := ⟨g, k * 4, none⟩) (by show w.heap.size ≤ g; omega) _).setCell (p := ⟨g, k * 4 + 1, none⟩) (by show w.heap.size ≤ g; omega) _).setCell (p := ⟨g, k * 4 + 2, none⟩) (by show w.heap.size ≤ g; omega) _).setCell (p := ⟨g, k * 4 + 3, none⟩) (by show w.heap.size ≤ g; omega) _), Lib.hid (box_far (box_far (box_far (box_far HQ.out (by omega)) (by omega)) (by omega)) (by omega))⟩
     case measure => simp [intOf]; omega
end Go.Proofs.YtlhemcjahcmdeaaGreatDoor
