/- Several texts in one: Last, NodeCopy, TreeCopy, Iter, NodeIter, NodeLay, NodeIAt, NodeIKeys, TreePure, TreeWhere, TreeKeys, NodeBox, Last2, Last3. -/
import Derived.OrdersHeld
import Derived.RangeFuncNested
import Derived.RangeFuncBound
import Derived.RangeFuncCalls
import Derived.RangeFuncLeaves
import Derived.Shelf.Abstract
import Derived.Shelf.RegionOpen
import Derived.WalkKit
import Derived.OwnWalkIn
import Derived.TacticsInMore
import Derived.LoopNIn
import Derived.LoopIn
import Derived.Test.YthopkhpiikiknaaGreatPkBA
namespace Go.Proofs.YthopkhpiikiknaaGreat
open Go.RowKit
set_option maxRecDepth 100000
set_option linter.unusedSimpArgs false
set_option linter.unusedVariables false

section
variable {P : Program} {md : Region.Mode} {ops : Array Oper} {Q : Exit → Act → World → Prop} {S : World → Prop} {f : Nat}
/-- Whatever order is picked from here on; S holds behind each operation but number f. -/
def anyBut (P : Program) (md : Region.Mode) (ops : Array Oper) (Q : Exit → Act → World → Prop) (S : World → Prop) (f : Nat) : Nat → Array Bool → Act → World → Prop
 |0, listed, a, w => Region.ready md ops listed = [] ∧ Q .normal a w
 |n + 1, listed, a, w => (Region.ready md ops listed = [] → Q .normal a w) ∧ ∀ i ∈ Region.ready md ops listed, wpOp P ops Q i (fun a' w' => (i ≠ f → S w') ∧ anyBut P md ops Q S f n (listed.setIfInBounds i true) a' w') a w
theorem anyBut_any : ∀ (n : Nat) (listed : Array Bool) (a : Act) (w : World), anyBut P md ops Q S f n listed a w → wpAny P md ops Q n listed a w
 |0, _, _, _, h => h
 |n + 1, _, _, _, h => ⟨h.1, fun i hi => wpOp_mono (fun a' w' h' => anyBut_any n _ a' w' h'.2) (h.2 i hi)⟩
/-- What has come up is not what has not. -/
theorem on_ne {listed : Array Bool} {i k : Nat} (hun : listed.getD i true = false) (hk : listed.getD k false = true) : k ≠ i := by
 rintro rfl
 rcases Nat.lt_or_ge k listed.size with h | h
 ·simp [h] at hk hun; rw [hk] at hun; cases hun
 ·simp [Array.getElem?_eq_none h] at hk
/-- What has come up came up behind what it waits for. -/
def Closed (md : Region.Mode) (ops : Array Oper) (listed : Array Bool) : Prop := ∀ k o, ops[k]? = some o → listed.getD k false = true → ∀ e ∈ o.after, Region.binds md e = true → listed.getD e.on false = true
def closedB (md : Region.Mode) (ops : Array Oper) (listed : Array Bool) : Bool := (List.range ops.size).all (fun k => match ops[k]? with | some o => !listed.getD k false || o.after.toList.all (fun e => !Region.binds md e || listed.getD e.on false) | none => true)
theorem closedB_spec {listed : Array Bool} (h : closedB md ops listed = true) : Closed md ops listed := by
 intro k o ho hk e he hb
 have hlt : k < ops.size := (Array.getElem?_eq_some_iff.1 ho).1
 have h1 := List.all_eq_true.1 h k (List.mem_range.2 hlt)
 simp only [ho, hk, Bool.not_true, Bool.false_or] at h1
 have h2 := List.all_eq_true.1 h1 e (Array.mem_toList_iff.2 he)
 simpa [hb] using h2
theorem Closed.set {listed : Array Bool} {j : Nat} (h : Closed md ops listed) (hj : j ∈ Region.ready md ops listed) : Closed md ops (listed.setIfInBounds j true) := by
 obtain ⟨hun, oj, hoj, hall⟩ := mem_ready.1 hj
 have up : ∀ m, listed.getD m false = true → (listed.setIfInBounds j true).getD m false = true := fun m hm => by rw [getD_set_ne false (fun hh => on_ne hun hm hh.symm)]; exact hm
 intro k o ho hk e he hb
 by_cases hkj : j = k
 ·subst hkj; rw [hoj] at ho; cases ho; exact up _ (hall e he hb)
 ·rw [getD_set_ne false hkj] at hk; exact up _ (h k o ho hk e he hb)
/-- Operation f waits for operation i, itself or through others. -/
def waits (md : Region.Mode) (ops : Array Oper) (i : Nat) : Nat → Nat → Bool
 |0, _ => false
 |n + 1, f => match ops[f]? with | some o => o.after.toList.any (fun e => Region.binds md e && (e.on == i || waits md ops i n e.on)) | none => false
theorem waits_out {i : Nat} {listed : Array Bool} (hc : Closed md ops listed) (hun : listed.getD i true = false) : ∀ (n g : Nat), waits md ops i n g = true → g ∉ Region.ready md ops listed ∧ ¬ listed.getD g false = true
 |0, _, h => by simp [waits] at h
 |n + 1, g, h => by
  unfold waits at h
  split at h
  ·rename_i o ho
   simp only [List.any_eq_true, Bool.and_eq_true, Bool.or_eq_true, beq_iff_eq] at h
   obtain ⟨e, he, hb, hi⟩ := h
   have hn : ¬ listed.getD e.on false = true := by
    rcases hi with hi | hi
    ·exact fun hh => on_ne hun hh hi
    ·exact (waits_out hc hun n e.on hi).2
   refine ⟨fun hf => ?_, fun hh => hn (hc g o ho hh e (Array.mem_toList_iff.1 he) hb)⟩
   obtain ⟨_, o', ho', hall⟩ := mem_ready.1 hf
   rw [ho] at ho'; cases ho'
   exact hn (hall e (Array.mem_toList_iff.1 he) hb)
  ·cases h
theorem anyBut_take {i m : Nat} {oi : Oper} {v : Value} (hi : ops[i]? = some oi) (hs : Region.noSelect ops = true) (hwt : waits md ops i m f = true) (hQ : ∀ c a w, Q (.panic c) (a.put oi.dst v) w → Q (.panic c) a w) :
  ∀ (n : Nat) (listed : Array Bool) (a : Act) (w : World), Closed md ops listed → (∀ j oj, ops[j]? = some oj → j ≠ i → listed.getD j true = false → (∀ e ∈ oj.after, Region.binds md e = true → e.on ≠ i) → oi.apart ops oj = true) →
   i ∈ Region.ready md ops listed → YieldsIf P ops S oi v a → S w → anyBut P md ops Q S f n (listed.setIfInBounds i true) (a.put oi.dst v) w → anyBut P md ops Q S f (n + 1) listed a w := by
 have hsel := Region.noSelect_spec hs
 intro n
 induction n with
 |zero =>
  intro listed a w _ _ hr hy hS H
  refine ⟨fun h => (by rw [h] at hr; cases hr), fun j hj => ?_⟩
  by_cases hji : j = i
  ·subst hji; exact hy.wpOp hi hS ⟨fun _ => hS, H⟩
  ·have h := ready_mono hj hji
   rw [H.1] at h
   cases h
 |succ n ih =>
  intro listed a w hcl hfree hr hy hS H
  refine ⟨fun h => (by rw [h] at hr; cases hr), fun j hj => ?_⟩
  by_cases hji : j = i
  ·subst hji; exact hy.wpOp hi hS ⟨fun _ => hS, H⟩
  ·have hjf : j ≠ f := fun h => (waits_out hcl (mem_ready.1 hr).1 m f hwt).1 (h ▸ hj)
   obtain ⟨hjun, oj, hoj, hall⟩ := mem_ready.1 hj
   have h2 := wpOp_putIf hoj (hfree j oj hoj hji hjun (fun e he hb => on_ne (mem_ready.1 hr).1 (hall e he hb))) (fun cs b => hsel i oi cs b hi) (fun cs b => hsel j oj cs b hoj) hQ hy (H.2 j (ready_mono hj hji))
   refine wpOp_mono (fun a' w' h3 => ⟨fun _ => h3.2.1 hjf, ih (listed.setIfInBounds j true) a' w' (hcl.set hj) (fun k ok hk hki hun hno => hfree k ok hk hki ?_ hno) (ready_mono hr (Ne.symm hji)) h3.1 (h3.2.1 hjf) ?_⟩) h2
   ·by_cases hjk : j = k
    ·subst hjk; exact hjun
    ·rw [getD_set_ne true hjk] at hun; exact hun
   ·rw [Array.setIfInBounds_comm _ _ hji]
    exact h3.2.2
/-- Take number i first. -/
theorem but_take {i : Nat} {oi : Oper} {v : Value} {n : Nat} {listed : Array Bool} {a : Act} {w : World} (hi : ops[i]? = some oi) (hs : Region.noSelect ops = true) (hwt : waits md ops i ops.size f = true) (hcl : closedB md ops listed = true) (hf : Region.free md ops listed i = true) (hr : (Region.ready md ops listed).contains i = true)
  (hQ : ∀ c a w, Q (.panic c) (a.put oi.dst v) w → Q (.panic c) a w) (hy : YieldsIf P ops S oi v a) (hS : S w) (h : anyBut P md ops Q S f n (listed.setIfInBounds i true) (a.put oi.dst v) w) : anyBut P md ops Q S f (n + 1) listed a w :=
 anyBut_take hi hs hwt hQ n listed a w (closedB_spec hcl) (Region.free_spec hi hf) (by simpa using hr) hy hS h
/-- One alone may come up: it is carried out. -/
theorem but_one {i : Nat} {o : Oper} {n : Nat} {listed : Array Bool} {a : Act} {w : World} (hr : Region.ready md ops listed = [i]) (ho : ops[i]? = some o)
  (h : ∀ K : Act → World → Prop, Hid (∀ a' w', (i ≠ f → S w') → anyBut P md ops Q S f n (listed.setIfInBounds i true) a' w' → K a' w') → if Region.wanted o (yielded ops a.tmps) = true then Oper.wp P o a w K Q else K (a.put o.dst undef) w) : anyBut P md ops Q S f (n + 1) listed a w := by
 refine ⟨fun h0 => (by rw [h0] at hr; cases hr), fun j hj => ?_⟩
 rw [hr, List.mem_singleton] at hj
 subst hj
 have h1 := h (fun a' w' => (j ≠ f → S w') ∧ anyBut P md ops Q S f n (listed.setIfInBounds j true) a' w') (Lib.hid (fun a' w' h2 h3 => ⟨h2, h3⟩))
 unfold wpOp
 simp only [ho]
 split
 ·rename_i hw; rw [if_pos hw] at h1; exact .inl h1
 ·rename_i hw; rw [if_neg hw] at h1; exact h1
/-- The same, where it is wanted. -/
theorem but_run {i : Nat} {o : Oper} {n : Nat} {listed : Array Bool} {a : Act} {w : World} (hr : Region.ready md ops listed = [i]) (ho : ops[i]? = some o) (hw : Region.wanted o (yielded ops a.tmps) = true)
  (h : ∀ K : Act → World → Prop, Hid (∀ a' w', (i ≠ f → S w') → anyBut P md ops Q S f n (listed.setIfInBounds i true) a' w' → K a' w') → Oper.wp P o a w K Q) : anyBut P md ops Q S f (n + 1) listed a w :=
 but_one hr ho (fun K hK => by rw [if_pos hw]; exact h K hK)
theorem but_done {n : Nat} {listed : Array Bool} {a : Act} {w : World} (hr : Region.ready md ops listed = []) (h : Q .normal a w) : anyBut P md ops Q S f n listed a w := by
 cases n with
 |zero => exact ⟨hr, h⟩
 |succ n => exact ⟨fun _ => h, by rw [hr]; simp⟩
theorem but_begin {id : Nat} {a : Act} {w : World} (hm : P.follows .mixedOrders = true) (h : anyBut P .any ops Q S f ops.size (Array.replicate ops.size false) a w.drew) : (Code.region id ops true).wp P Q a w := wp_region_any hm (anyBut_any _ _ _ _ h)
end
end Go.Proofs.YthopkhpiikiknaaGreat
namespace Go.Proofs.YthopkhpiikiknaaGreat
open Go.RowKit
set_option maxRecDepth 100000
set_option linter.unusedSimpArgs false
set_option linter.unusedVariables false

theorem cloneSets_any (A : Option Addr) (n c : Nat) (xs : List Value) (w : World) (hA : At w A xs) (hl : xs.length = n * 1) (h1 : ∀ u ∈ xs, u.oneCell' = true) (hn : n ≤ 1100000) : Calls Tryz.prog 100 #[.slice A n c] w (NewRow w 36 1 n xs) := by
 rcases A with _ | ad
 ·have h0 : xs = [] := by
   rcases hA with h | ⟨b, off, h, _⟩
   ·exact h
   ·cases h
  subst h0
  have h2 : n = 0 := by simpa using hl.symm
  subst h2
  have hq := run_eqnil (P := Tryz.prog) w 60 36 none 0 c Tryz.underlying60
  go_enter Tryz.func100, Tryz.ntmps100
  go_wp2
  go_ret
  exact ⟨_, rfl, row_nil _ _ _ _, Below.refl _ _⟩
 ·have hA0 := hA.on (bal1 w (.cells #[] 36))
  have ho0 := row_lit w 36 1
  have HB := Lib.hid (bal1 w (.cells #[] 36))
  have hq := run_eqnil (P := Tryz.prog) w 60 36 (some ad) n c Tryz.underlying60
  have HL := Lib.hid hl
  have H1 := Lib.hid h1
  clear hA hl h1
  go_enter Tryz.func100, Tryz.ntmps100
  go_wp2_with (at_builtin; refine wpList_appV _ rfl (.tmp 5) (.tmp 6) 60 36 1 24 (.slice none 0 0) rfl Tryz.underlying60 (by kernel_rfl) rfl (by omega) (by omega) w.heap.size 0 _ [] rfl ho0 (some ad) n c xs rfl HL.out hA0 H1.out (by omega) (by simp) ?_; intro v1 w1 o1 g1 _ _; have b1 := Lib.hid (grown_below HB.out g1 ho0 (Nat.le_refl _)); clear g1 ho0 hA0)
  rw [List.nil_append, Nat.zero_add] at o1
  go_ret
  exact ⟨v1, rfl, o1, b1.out⟩
set_option maxHeartbeats 2000000 in
theorem copyNode_any (v : Value) (ns : List (List KeyD)) (w : World) (hv : Reads w w.heap.size v (setsD ns)) (hs : SmallN ns) : Calls Tryz.prog 73 #[.agg #[v]] w (NewN w ns) := by
 obtain ⟨A0, d0, rfl, _, _⟩ := hv.lenN
 have HS := Lib.hid hs
 have s1 := hs.1
 obtain ⟨xs, hat, hrs, hxl⟩ := hv.cells
 have X0 := Lib.hid hrs
 have HXL := Lib.hid hxl
 have ones : ∀ u ∈ xs, u.oneCell' = true := hrs.ones (fun c hc => by simp at hc; obtain ⟨l, _, rfl⟩ := hc; rfl)
 obtain ⟨q0, q1⟩ := al2 w (.cells #[.slice A0 ns.length d0] 62) (.cells #[.slice none 0 0] 62)
 have Q0 := Lib.hid q0
 have Q1 := Lib.hid q1
 clear hv hs hrs hxl q0 q1
 go_enter Tryz.func73, Tryz.ntmps73
 go_wp2_with fail
 refine (cloneSets_any A0 ns.length d0 xs _ (hat.on (bal2 _ _ _)) HXL.out ones s1).mono ?_
 rintro e w1 ⟨u, rfl, ho1, b1⟩
 have hb1 := bstep (bal2 _ _ _) b1
 have q0 := box_on Q0.out b1
 have q1 := box_on Q1.out b1
 have hz := b1.size
 simp only [World.size_alloc] at hz ho1
 obtain ⟨Au, cu, rfl⟩ := row_form ho1
 have HO1 := Lib.hid ho1
 have P0 := Lib.hid q0
 have P1 := Lib.hid q1
 have HB1 := Lib.hid hb1
 clear b1 ones hat q0 q1 ho1 hb1
 have REL1 : Hid (CopyIn w (w.heap.size + 1 + 1) w.heap.size (.cells #[.slice A0 ns.length d0] 62) (.slice Au ns.length cu) 36 1 ns.length 0 xs (ns.map keysD) w1) :=
  Lib.hid ⟨xs, HO1.out, by simpa using OwnsL.nil _ _, fun _ _ => rfl, P0.out, HB1.out⟩
 go_wp2
 go_loopw [11] (fun i wr => ∃ k : Nat, k ≤ ns.length ∧ i = .int .i64 k ∧ Hid (CopyIn w (w.heap.size + 1 + 1) w.heap.size (.cells #[.slice A0 ns.length d0] 62) (.slice Au ns.length cu) 36 1 ns.length k xs (ns.map keysD) wr) ∧ Hid (wr.heap[w.heap.size + 1]? = some (.cells #[.slice none 0 0] 62))) (fun i _ => ns.length - (intOf i).toNat)
 case atStart => exact ⟨0, Nat.zero_le _, rfl, REL1, P1⟩
 case round =>
  clear hz REL1
  obtain ⟨k, hk, rfl, HC, HP⟩ := hrel
  obtain ⟨zs, ho, hown, htl, hbx, hb⟩ := HC.out
  by_cases hlt : k < ns.length
  ·have hxk : k < xs.length := by rw [HXL.out]; omega
   rcases row_cases ho with ⟨_, h, _⟩ | ⟨g, cap, hu, hbg, hR, hn, hc, hl⟩
   ·omega
   ·cases hu
    have hzk : k < zs.length := by omega
    have ez : zs[k] = xs[k] := by
     have := htl k (Nat.le_refl _)
     rw [List.getElem?_eq_getElem hzk, List.getElem?_eq_getElem hxk] at this
     exact Option.some.inj this
    have c1 := hR.cell hzk
    rw [ez] at c1
    have rk := (X0.out.on hb).2 k hxk (by simpa using hlt)
    rw [List.getElem_map] at rk
    obtain ⟨Ak, dk, ek, _, _⟩ := rk.lenN
    rw [ek] at c1 rk
    have hg := hR.lt
    have hlk := HS.out.at hlt
    have i1 : (k : Int) < (ns.length : Int) := by omega
    have i2 : (0 : Int) ≤ (k : Int) := by omega
    have hne2 : ¬ w.heap.size = g := by omega
    have RK := Lib.hid rk
    have HOWN := Lib.hid hown
    have HO := Lib.hid ho
    have HT := Lib.hid htl
    have HR := Lib.hid hR
    have HBX := Lib.hid hbx
    have HZ := Lib.hid hzk
    have HBB := Lib.hid hb
    clear rk ek ez hown ho htl hR hbx hb hl hxk hzk HC
    go_wp2_with fail
    refine (cloneK_any _ ns[k] _ RK.out (by omega)).mono ?_
    rintro e w2 ⟨x, rfl, ox, b2⟩
    have R2 := HR.out.keep (b2.block g hg)
    have cc := R2.cell HZ.out
    have ff := R2.frozen k
    obtain ⟨Ax, dx, rfl, _, _⟩ := ox.shape
    have NEW := Lib.hid (CopyIn.step (w := w) HO.out HOWN.out HT.out HBX.out HBB.out b2 ox.owns hg (by omega) hne2 (by omega) hlt)
    have HP2 := Lib.hid (box_far (j := k) (u := .slice Ax (ns[k]).length dx) (box_on HP.out b2) (show w.heap.size + 1 ≠ g by omega))
    clear ox b2 R2 c1
    go_wp2
    go_roundw
    case rel =>
     refine ⟨k + 1, by omega, by go_num, ?_, HP2⟩
     have h := NEW.out
     exact Lib.hid (h (by simpa using hlt) (by simp))
    case measure => simp [intOf]; omega
  ·have e : k = ns.length := by omega
   have hsec : Owns wr (fun b => w.heap.size + 1 + 1 ≤ b) (.slice Au ns.length cu) (setsD ns) := by
    subst e
    have h1 : zs.length = ns.length * 1 := ho.1
    rw [List.take_of_length_le (by omega), List.take_of_length_le (by simp)] at hown
    exact row_owns ho hown (by simp)
   have HSEC := Lib.hid hsec
   have HBB := Lib.hid hb
   obtain ⟨x0, x1⟩ := box1N HP.out
   clear hsec hown ho htl hbx hb HC
   go_wp2
   refine bodyPost_ret (v := .agg #[.slice Au ns.length cu]) (by simp [results, Tryz.results73, go_sem, x0, x1]) rfl ⟨_, rfl, ?_, ?_⟩
   ·exact (HSEC.out.setFar (by omega)).mono (fun b hb => by omega)
   ·exact HBB.out.setCell (p := ⟨w.heap.size + 1, 0, none⟩) (show w.heap.size ≤ w.heap.size + 1 by omega) _
/-- What the region of spec.l5Copy reads: two boxes and an element. -/
def NC1 (p1 b1 : Nat) (o1 : Nat) (v1 e1 : Value) (p3 : Nat) (v3 : Value) (W : World) : Prop := W.cell? ⟨p1, 0, none⟩ = some v1 ∧ W.cell? ⟨b1, o1, none⟩ = some e1 ∧ W.cell? ⟨p3, 0, none⟩ = some v3
theorem NC1.on {p1 b1 o1 : Nat} {v1 e1 : Value} {p3 : Nat} {v3 : Value} {wr W : World} (h : NC1 p1 b1 o1 v1 e1 p3 v3 wr) (hb : Below wr.heap.size wr W) : NC1 p1 b1 o1 v1 e1 p3 v3 W :=
 have k : ∀ (b o : Nat) (v : Value), wr.cell? ⟨b, o, none⟩ = some v → W.cell? ⟨b, o, none⟩ = some v := fun b o _ hc => (World.cell?_of_block (a := ⟨b, o, none⟩) (hb.block b (World.block_lt_of_cell? wr _ hc))).trans hc
 ⟨k _ _ _ h.1, k _ _ _ h.2.1, k _ _ _ h.2.2⟩
theorem NC1.grown {p1 b1 o1 : Nat} {v1 e1 : Value} {p3 : Nat} {v3 : Value} {wr W : World} {g : Option Nat} (h : NC1 p1 b1 o1 v1 e1 p3 v3 wr) (hg : wr.grownBy W g) (h1 : g ≠ some p1) (h2 : g ≠ some b1) (h3 : g ≠ some p3) : NC1 p1 b1 o1 v1 e1 p3 v3 W :=
 have k : ∀ (b o : Nat) (v : Value), g ≠ some b → wr.cell? ⟨b, o, none⟩ = some v → W.cell? ⟨b, o, none⟩ = some v := fun b o _ hn hc => (World.cell?_of_block (a := ⟨b, o, none⟩) (hg.block b (World.block_lt_of_cell? wr _ hc) (fun e => hn e.symm))).trans hc
 ⟨k _ _ _ h1 h.1, k _ _ _ h2 h.2.1, k _ _ _ h3 h.2.2⟩
theorem operAppN {P : Program} {o : Oper} {a : Act} {Kn : Act → World → Prop} {Q : Exit → Act → World → Prop} (w : World) (hgd : o.guard = none) (s x : Operand) (t e z by_ : Nat) (zero : Value)
  (hop : o.op = .call { callee := .builtin .append, args := #[s, x], argTypes := #[t, t] }) (ht : P.underlying t = some (.slice e)) (hinfo : (P.info? e).map (fun i => (i.zero, i.size, i.bytes)) = some (some zero, z, by_)) (hzc : zero.cells.size = z) (hz : 0 < z) (hby : by_ ≤ 1024)
  (base n : Nat) (v : Value) (xs : List Value) (hs : a.eval s = v) (hown : w.ownsRow base e z v n xs) (A : Option Addr) (m c : Nat) (news : List Value) (hx : a.eval x = .slice A m c) (hl : news.length = m * z) (hA : At w A news) (h1 : ∀ u ∈ news, u.oneCell' = true) (hlen : n + m ≤ 1073741824) (hbase : base ≤ w.heap.size)
  (h : ∀ v' w', w'.ownsRow base e z v' (n + m) (xs ++ news) → w.grownBy w' v.ownBlock → (v' = .slice none 0 0 ↔ v = .slice none 0 0 ∧ m = 0) → (v'.ownBlock = v.ownBlock ∨ v'.ownBlock = some w.heap.size) → Kn (a.put o.dst v') w') : Oper.wp P o a w Kn Q := by
 have h2 := step_appV (ops := #[]) (Q := Q) (E := True) w hgd s x t e z by_ zero hop ht hinfo hzc hz hby base n v xs hs hown A m c news hx hl hA h1 hlen hbase h
 rwa [if_pos (by simp [Region.wanted, hgd])] at h2
theorem inner_appK (wr w6 : World) {v6 : Value} (l : List KeyD) (o6 : w6.ownsRow wr.heap.size 29 5 v6 (0 + l.length) ([] ++ kvl l)) (g6 : (wr.drew.alloc (.cells #[] 29)).grownBy w6 (Value.slice (some ⟨wr.drew.heap.size, 0, none⟩) 0 0).ownBlock) : Below wr.heap.size wr w6 ∧ RowK w6 wr.heap.size v6 l ∧ ∃ A c, v6 = .slice A l.length c := by
 have o7 : RowK w6 wr.heap.size v6 l := by rw [Nat.zero_add, List.nil_append] at o6; exact o6
 refine ⟨?_, o7, by obtain ⟨A, c, h, _⟩ := o7.shape; exact ⟨A, c, h⟩⟩
 have h : Below wr.heap.size wr (wr.drew.alloc (.cells #[] 29)) := (Below.refl _ _).drew.alloc (Nat.le_refl _) _
 exact h.grown g6 h.size (fun k hk => by simp [Value.ownBlock] at hk; subst hk; exact Nat.le_refl _)
def SetsIn (w : World) (ns : List (List KeyD)) (bx1 bx2 : Obj) (k : Nat) (wr : World) : Prop :=
 ∃ u xs, wr.ownsRow (w.heap.size + 3) 36 1 u k xs ∧ OwnsL wr (Tof (w.heap.size + 3) u) xs ((ns.take k).map keysD) ∧ wr.heap[w.heap.size]? = some bx1 ∧ wr.heap[w.heap.size + 1]? = some bx2 ∧ wr.heap[w.heap.size + 1 + 1]? = some (.cells #[u] 62) ∧ Below w.heap.size w wr
set_option maxHeartbeats 4000000 in
theorem l5Copy_any (v : Value) (ns : List (List KeyD)) (w : World) (hv : Reads w w.heap.size v (setsD ns)) (hs : SmallN ns) : Calls Tryz.prog 83 #[.agg #[v]] w (NewN w ns) := by
 obtain ⟨A0, d0, rfl, _, _⟩ := hv.lenN
 have HS := Lib.hid hs
 have s1 := hs.1
 have V0 := Lib.hid hv
 obtain ⟨q0, q1, q2⟩ := al3 w (.cells #[.slice A0 ns.length d0] 62) (.cells #[.slice none 0 0] 62) (.cells #[.slice none 0 0] 62)
 have REL : Hid (SetsIn w ns (.cells #[.slice A0 ns.length d0] 62) (.cells #[.slice none 0 0] 62) 0 _) := Lib.hid ⟨.slice none 0 0, [], row_nil _ _ _ _, by simpa using OwnsL.nil _ _, q0, q1, q2, bal3 _ _ _ _⟩
 clear hv hs q0 q1 q2
 go_enter Tryz.func83, Tryz.ntmps83
 go_wp2
 go_loopw [4] (fun i wr => ∃ k : Nat, k ≤ ns.length ∧ i = .int .i64 k ∧ Hid (SetsIn w ns (.cells #[.slice A0 ns.length d0] 62) (.cells #[.slice none 0 0] 62) k wr)) (fun i _ => ns.length - (intOf i).toNat)
 case atStart => exact ⟨0, Nat.zero_le _, rfl, REL⟩
 case round =>
  clear REL
  obtain ⟨k, hk, rfl, HC⟩ := hrel
  obtain ⟨u, xs, hr, ho, q0, q1, q2, hb⟩ := HC.out
  obtain ⟨x0, x1⟩ := box1N q0
  by_cases hlt : k < ns.length
  ·obtain ⟨b, off, rfl, hb0, _⟩ := V0.out.set hlt
   obtain ⟨b', off', hbe, hbb, hc⟩ := (V0.out.on hb).set hlt
   cases hbe
   obtain ⟨A2, d2, c1, _, _, r1⟩ := hc k hlt
   obtain ⟨z0, z1⟩ := box1N q2
   obtain ⟨Au, cu, rfl⟩ := row_form hr
   have hzw : w.heap.size + 1 + 1 < wr.heap.size := (Array.getElem?_eq_some_iff.1 q2).1
   have hzx : w.heap.size < wr.heap.size := by omega
   have i1 : (k : Int) < (ns.length : Int) := by omega
   have i2 : (0 : Int) ≤ (k : Int) := by omega
   have hlk := HS.out.at hlt
   have n1 : ¬ w.heap.size + 1 + 1 = w.heap.size := by omega
   have n2 : ¬ w.heap.size = w.heap.size + 1 + 1 := by omega
   have Q0 := Lib.hid q0
   have Q1 := Lib.hid q1
   have Q2 := Lib.hid q2
   have HR := Lib.hid hr
   have HO := Lib.hid ho
   have HB := Lib.hid hb
   have AT := Lib.hid (Reads.on r1 ((Below.refl _ _).drew.alloc (Nat.le_refl _) (.cells #[] 29))).atK
   have HZ1 : Hid (wr.heap.size ≤ (wr.drew.alloc (.cells #[] 29)).heap.size) := Lib.hid (Nat.le_of_lt (by rw [World.size_alloc]; exact Nat.lt_succ_self _))
   have C1 := Lib.hid c1
   clear hc q0 q1 q2 hr ho hb r1 HC
   go_wp2
   have hSW : NC1 w.heap.size b (off + k) (.slice (some ⟨b, off, none⟩) ns.length d0) (.slice A2 (ns[k]).length d2) (w.heap.size + 1 + 1) (.slice Au k cu) wr.drew := ⟨x0, c1, z0⟩
   have hSV : NC1 w.heap.size b (off + k) (.slice (some ⟨b, off, none⟩) ns.length d0) (.slice A2 (ns[k]).length d2) (w.heap.size + 1 + 1) (.slice Au k cu) wr := ⟨x0, c1, z0⟩
   refine but_begin (f := 12) (S := NC1 w.heap.size b (off + k) (.slice (some ⟨b, off, none⟩) ns.length d0) (.slice A2 (ns[k]).length d2) (w.heap.size + 1 + 1) (.slice Au k cu)) (by kernel_rfl) ?_
   refine but_take (f := 12) (i := 0) (v := ?v0) rfl (by kernel_rfl) (by kernel_rfl) (by kernel_rfl) (by kernel_rfl) (by kernel_rfl) (fun _ _ _ h => h) (Or.inl ⟨by rfl, ?hy0⟩) hSW ?rest0
   case hy0 =>
    intro W hW
    obtain ⟨h1, h2, h3⟩ := hW
    go_simp
    exact rfl
   simp only [List.getElem_toArray, List.getElem_cons_succ, List.getElem_cons_zero, Act.put, List.setIfInBounds_toArray, List.set_cons_zero, List.set_cons_succ]
   refine but_take (f := 12) (i := 1) (v := ?v1) rfl (by kernel_rfl) (by kernel_rfl) (by kernel_rfl) (by kernel_rfl) (by kernel_rfl) (fun _ _ _ h => h) (Or.inl ⟨by rfl, ?hy1⟩) hSW ?rest1
   case hy1 =>
    intro W hW
    obtain ⟨h1, h2, h3⟩ := hW
    go_simp
    exact rfl
   simp only [List.getElem_toArray, List.getElem_cons_succ, List.getElem_cons_zero, Act.put, List.setIfInBounds_toArray, List.set_cons_zero, List.set_cons_succ]
   refine but_take (f := 12) (i := 3) (v := ?v3) rfl (by kernel_rfl) (by kernel_rfl) (by kernel_rfl) (by kernel_rfl) (by kernel_rfl) (fun _ _ _ h => h) (Or.inl ⟨by rfl, ?hy3⟩) hSW ?rest3
   case hy3 =>
    intro W hW
    obtain ⟨h1, h2, h3⟩ := hW
    go_simp
    exact rfl
   simp only [List.getElem_toArray, List.getElem_cons_succ, List.getElem_cons_zero, Act.put, List.setIfInBounds_toArray, List.set_cons_zero, List.set_cons_succ]
   refine but_take (f := 12) (i := 4) (v := ?v4) rfl (by kernel_rfl) (by kernel_rfl) (by kernel_rfl) (by kernel_rfl) (by kernel_rfl) (fun _ _ _ h => h) (Or.inl ⟨by rfl, ?hy4⟩) hSW ?rest4
   case hy4 =>
    intro W hW
    obtain ⟨h1, h2, h3⟩ := hW
    go_simp
    exact rfl
   simp only [List.getElem_toArray, List.getElem_cons_succ, List.getElem_cons_zero, Act.put, List.setIfInBounds_toArray, List.set_cons_zero, List.set_cons_succ]
   refine but_take (f := 12) (i := 5) (v := ?v5) rfl (by kernel_rfl) (by kernel_rfl) (by kernel_rfl) (by kernel_rfl) (by kernel_rfl) (fun _ _ _ h => h) (Or.inl ⟨by rfl, ?hy5⟩) hSW ?rest5
   case hy5 =>
    intro W hW
    obtain ⟨h1, h2, h3⟩ := hW
    go_simp
    exact rfl
   simp only [List.getElem_toArray, List.getElem_cons_succ, List.getElem_cons_zero, Act.put, List.setIfInBounds_toArray, List.set_cons_zero, List.set_cons_succ]
   refine but_take (f := 12) (i := 6) (v := ?v6) rfl (by kernel_rfl) (by kernel_rfl) (by kernel_rfl) (by kernel_rfl) (by kernel_rfl) (fun _ _ _ h => h) (Or.inl ⟨by rfl, ?hy6⟩) hSW ?rest6
   case hy6 =>
    intro W hW
    obtain ⟨h1, h2, h3⟩ := hW
    go_simp
    exact rfl
   simp only [List.getElem_toArray, List.getElem_cons_succ, List.getElem_cons_zero, Act.put, List.setIfInBounds_toArray, List.set_cons_zero, List.set_cons_succ]
   refine but_take (f := 12) (i := 7) (v := ?v7) rfl (by kernel_rfl) (by kernel_rfl) (by kernel_rfl) (by kernel_rfl) (by kernel_rfl) (fun _ _ _ h => h) (Or.inl ⟨by rfl, ?hy7⟩) hSW ?rest7
   case hy7 =>
    intro W hW
    obtain ⟨h1, h2, h3⟩ := hW
    go_simp
    exact rfl
   simp only [List.getElem_toArray, List.getElem_cons_succ, List.getElem_cons_zero, Act.put, List.setIfInBounds_toArray, List.set_cons_zero, List.set_cons_succ]
   refine but_run (i := 2) (by kernel_rfl) rfl (by rfl) ?_
   simp only [List.getElem_toArray, List.getElem_cons_succ, List.getElem_cons_zero]
   intro K_ HK
   go_wp2
   refine HK.out _ (wr.drew.alloc (.cells #[] 29)) (fun _ => hSW.on (bal1 _ _)) ?_
   clear HK
   refine but_run (i := 8) (by kernel_rfl) rfl (by rfl) ?_
   simp only [List.getElem_toArray, List.getElem_cons_succ, List.getElem_cons_zero]
   intro K_ HK
   refine operAppN _ (by rfl) (.tmp 15) (.tmp 20) 36 29 5 40 (.agg #[.int .i64 0, .int .i64 0, .int .i64 0, .int .i64 0, .int .i64 0]) (by rfl) Tryz.underlying36 (by kernel_rfl) rfl (by omega) (by omega) wr.heap.size 0 _ [] (by rfl) (row_lit wr.drew 29 5) A2 (ns[k]).length d2 (kvl ns[k]) (by rfl) (kvl_len _) AT.out (kvl_cells _) (by omega) HZ1.out ?_
   intro v6 w6 o6' g6' _ _
   obtain ⟨b6, o6, A6, c6, rfl⟩ := inner_appK wr _ _ o6' g6'
   have hS6 := hSV.on b6
   refine HK.out _ _ (fun _ => hS6) ?_
   clear HK
   have B6 := Lib.hid b6
   have O6 := Lib.hid o6.owns
   clear o6 o6' g6' b6
   simp only [Act.put, List.setIfInBounds_toArray, List.set_cons_zero, List.set_cons_succ]
   refine but_run (i := 9) (by kernel_rfl) rfl (by rfl) ?_
   simp only [List.getElem_toArray, List.getElem_cons_succ, List.getElem_cons_zero]
   intro K_ HK
   go_wp2
   have hS7 := hS6.on (bal1 w6 (.cells #[.slice A6 (ns[k]).length c6] 36))
   refine HK.out _ _ (fun _ => hS7) ?_
   clear HK
   have hz6 := B6.out.size
   refine but_run (i := 10) (by kernel_rfl) rfl (by rfl) ?_
   simp only [List.getElem_toArray, List.getElem_cons_succ, List.getElem_cons_zero]
   intro K_ HK
   refine operAppN _ (by rfl) (.tmp 14) (.tmp 22) 60 36 1 24 (.slice none 0 0) (by rfl) Tryz.underlying60 (by kernel_rfl) rfl (by omega) (by omega) (w.heap.size + 3) k _ xs (by rfl) (row_on (row_on HR.out B6.out) (bal1 _ _)) _ 1 1 [.slice A6 (ns[k]).length c6] (by rfl) rfl (At.lit1 _ _ _) (by simp [Value.oneCell']) (by omega) (by simp; omega) ?_
   intro v8 w8 o8 g8 n8 at8
   have h8 := box_grown (box_on (box_on Q2.out B6.out) (bal1 _ _)) g8 (row_ne HR.out (by omega))
   have K8 := Lib.hid (box_grown (box_on (box_on Q0.out B6.out) (bal1 _ _)) g8 (row_ne HR.out (by omega)))
   have L8 := Lib.hid (box_grown (box_on (box_on Q1.out B6.out) (bal1 _ _)) g8 (row_ne HR.out (by omega)))
   have hS8 := hS7.grown g8 (row_ne HR.out (by omega)) (row_ne HR.out (by omega)) (row_ne HR.out (by omega))
   refine HK.out _ _ (fun _ => hS8) ?_
   clear HK
   have O8 := Lib.hid o8
   have G8 := Lib.hid g8
   have AT8 := Lib.hid at8
   obtain ⟨gv, cv, rfl⟩ := row_shape o8 (by omega)
   obtain ⟨f0, f1⟩ := box1N h8
   have H8 := Lib.hid h8
   clear h8 o8 g8 at8 n8
   simp only [Act.put, List.setIfInBounds_toArray, List.set_cons_zero, List.set_cons_succ]
   refine but_run (i := 11) (by kernel_rfl) rfl (by rfl) ?_
   simp only [List.getElem_toArray, List.getElem_cons_succ, List.getElem_cons_zero]
   intro K_ HK
   go_wp2
   refine HK.out _ _ (fun _ => hS8) ?_
   clear HK
   refine but_run (i := 12) (by kernel_rfl) rfl (by rfl) ?_
   simp only [List.getElem_toArray, List.getElem_cons_succ, List.getElem_cons_zero]
   intro K_ HK
   go_wp2
   refine HK.out _ _ (fun h => (h rfl).elim) ?_
   clear HK
   have B7 := Lib.hid (bstep B6.out (bal1 w6 (.cells #[.slice A6 (ns[k]).length c6] 36)))
   have HX := Lib.hid (own_grow HR.out HO.out B7.out (OwnsL.one ((O6.out.on (bal1 _ (.cells #[.slice A6 (ns[k]).length c6] 36))).lt)) G8.out AT8.out (by omega))
   have HB8 := Lib.hid (grown_below (bstep HB.out B7.out) G8.out (row_on HR.out B7.out) (by omega))
   have NEW : Hid (SetsIn w ns (.cells #[.slice (some ⟨b, off, none⟩) ns.length d0] 62) (.cells #[.slice none 0 0] 62) (k + 1) (w8.setCell ⟨w.heap.size + 1 + 1, 0, none⟩ (.slice (some ⟨gv, 0, none⟩) (k + 1) cv))) := by
    refine Lib.hid ⟨_, _, row_keep O8.out (fun g hg => Below.heap_setCell _ _ _ _ (by have := (row_lt O8.out g hg).2; simp; omega)), ?_, box_far K8.out (by omega), box_far L8.out (by omega), box_set H8.out, HB8.out.setCell (p := ⟨w.heap.size + 1 + 1, 0, none⟩) (by simp; omega) _⟩
    rw [List.take_succ_eq_append_getElem hlt, List.map_append]
    exact HX.out.keep (fun b hb _ => Below.heap_setCell _ _ _ _ (by have := hb.1; simp; omega))
   clear HX HB8 O8 G8 AT8 H8 K8 L8 HR HO Q0 Q1 Q2 HB B7 B6 O6
   refine but_done (by kernel_rfl) ?_
   go_wp2
   go_roundw
   case rel => exact ⟨k + 1, by omega, by go_num, NEW⟩
   case measure => simp [intOf]; omega
  ·have e : k = ns.length := by omega
   subst e
   rw [List.take_of_length_le (Nat.le_refl _)] at ho
   obtain ⟨Au, cu, rfl⟩ := row_form hr
   obtain ⟨z0, z1⟩ := box1N q2
   obtain ⟨y0, y1⟩ := box1N q1
   have hsec : Owns wr (fun b => w.heap.size + 3 ≤ b) (.slice Au ns.length cu) (setsD ns) := row_owns hr ho (by simp)
   have HSEC := Lib.hid hsec
   have HBB := Lib.hid hb
   clear hsec ho hr q0 q1 q2 hb HC
   go_wp2
   refine bodyPost_ret (v := .agg #[.slice Au ns.length cu]) (by simp [results, Tryz.results83, go_sem, y0, y1]) rfl ⟨_, rfl, ?_, ?_⟩
   ·exact (HSEC.out.setFar (by omega)).mono (fun b hb => by omega)
   ·exact HBB.out.setCell (p := ⟨w.heap.size + 1, 0, none⟩) (show w.heap.size ≤ w.heap.size + 1 by omega) _
end Go.Proofs.YthopkhpiikiknaaGreat
namespace Go.Proofs.YthopkhpiikiknaaGreat
open Go.RowKit
set_option maxRecDepth 100000
set_option linter.unusedSimpArgs false
set_option linter.unusedVariables false
theorem cloneNodes_any (A : Option Addr) (n c : Nat) (xs : List Value) (w : World) (hA : At w A xs) (hl : xs.length = n * 1) (h1 : ∀ u ∈ xs, u.oneCell' = true) (hn : n ≤ 1100000) : Calls Tryz.prog 72 #[.slice A n c] w (NewRow w 62 1 n xs) := by
 rcases A with _ | ad
 ·have h0 : xs = [] := by
   rcases hA with h | ⟨b, off, h, _⟩
   ·exact h
   ·cases h
  subst h0
  have h2 : n = 0 := by simpa using hl.symm
  subst h2
  have hq := run_eqnil (P := Tryz.prog) w 25 62 none 0 c Tryz.underlying25
  go_enter Tryz.func72, Tryz.ntmps72
  go_wp2
  go_ret
  exact ⟨_, rfl, row_nil _ _ _ _, Below.refl _ _⟩
 ·have hA0 := hA.on (bal1 w (.cells #[] 62))
  have ho0 := row_lit w 62 1
  have HB := Lib.hid (bal1 w (.cells #[] 62))
  have hq := run_eqnil (P := Tryz.prog) w 25 62 (some ad) n c Tryz.underlying25
  have HL := Lib.hid hl
  have H1 := Lib.hid h1
  clear hA hl h1
  go_enter Tryz.func72, Tryz.ntmps72
  go_wp2_with (at_builtin; refine wpList_appV _ rfl (.tmp 5) (.tmp 6) 25 62 1 24 (.agg #[.slice none 0 0]) rfl Tryz.underlying25 (by kernel_rfl) rfl (by omega) (by omega) w.heap.size 0 _ [] rfl ho0 (some ad) n c xs rfl HL.out hA0 H1.out (by omega) (by simp) ?_; intro v1 w1 o1 g1 _ _; have b1 := Lib.hid (grown_below HB.out g1 ho0 (Nat.le_refl _)); clear g1 ho0 hA0)
  rw [List.nil_append, Nat.zero_add] at o1
  go_ret
  exact ⟨v1, rfl, o1, b1.out⟩
theorem cloneInts_any (A : Option Addr) (n c : Nat) (xs : List Value) (w : World) (hA : At w A xs) (hl : xs.length = n * 1) (h1 : ∀ u ∈ xs, u.oneCell' = true) (hn : n ≤ 1100000) : Calls Tryz.prog 74 #[.slice A n c] w (NewRow w 3 1 n xs) := by
 rcases A with _ | ad
 ·have h0 : xs = [] := by
   rcases hA with h | ⟨b, off, h, _⟩
   ·exact h
   ·cases h
  subst h0
  have h2 : n = 0 := by simpa using hl.symm
  subst h2
  have hq := run_eqnil (P := Tryz.prog) w 24 3 none 0 c Tryz.underlying24
  go_enter Tryz.func74, Tryz.ntmps74
  go_wp2
  go_ret
  exact ⟨_, rfl, row_nil _ _ _ _, Below.refl _ _⟩
 ·have hA0 := hA.on (bal1 w (.cells #[] 3))
  have ho0 := row_lit w 3 1
  have HB := Lib.hid (bal1 w (.cells #[] 3))
  have hq := run_eqnil (P := Tryz.prog) w 24 3 (some ad) n c Tryz.underlying24
  have HL := Lib.hid hl
  have H1 := Lib.hid h1
  clear hA hl h1
  go_enter Tryz.func74, Tryz.ntmps74
  go_wp2_with (at_builtin; refine wpList_appV _ rfl (.tmp 5) (.tmp 6) 24 3 1 8 (.int .i64 0) rfl Tryz.underlying24 (by kernel_rfl) rfl (by omega) (by omega) w.heap.size 0 _ [] rfl ho0 (some ad) n c xs rfl HL.out hA0 H1.out (by omega) (by simp) ?_; intro v1 w1 o1 g1 _ _; have b1 := Lib.hid (grown_below HB.out g1 ho0 (Nat.le_refl _)); clear g1 ho0 hA0)
  rw [List.nil_append, Nat.zero_add] at o1
  go_ret
  exact ⟨v1, rfl, o1, b1.out⟩
theorem only_two (w : World) (p i j : Nat) (a b : Value) : Only (fun b => b = p) w ((w.setCell ⟨p, i, none⟩ a).setCell ⟨p, j, none⟩ b) :=
 Only.setCell (S := fun b => b = p) (g := p) (Only.setCell (S := fun b => b = p) (g := p) (Only.refl _ _) rfl _) rfl _
theorem one_iV (l : List Int) : ∀ u ∈ l.map iV, u.oneCell' = true := by
 intro u hu
 simp only [List.mem_map] at hu
 obtain ⟨n, _, rfl⟩ := hu
 rfl
theorem row_ints {w : World} {base : Nat} {v : Value} {lo : List Int} (h : w.ownsRow base 3 1 v lo.length (lo.map iV)) : Owns w (fun b => base ≤ b) v (intsD lo) := row_owns h (ints_litL _ _ _) (by simp)
theorem Reads.atI {w : World} {B : Nat} {A : Option Addr} {n c : Nat} {lo : List Int} (h : Reads w B (.slice A n c) (intsD lo)) : At w A (lo.map iV) := by
 obtain ⟨xs, hat, hrs, _⟩ := h.cells
 rw [← lits_eq hrs]
 exact hat
set_option maxHeartbeats 4000000 in
theorem copyTree_any (vl vn : Value) (lo : List Int) (ts : List NodeD) (w : World) (hv : RdT w w.heap.size vl vn lo ts) (hs : SmallT lo ts) : Calls Tryz.prog 35 #[.agg #[vl, vn]] w (NewTS w lo ts) := by
 obtain ⟨A, c, B, d, rfl, rfl⟩ := hv.shape
 have HS := Lib.hid hs
 have s1 := hs.1
 have s2 := hs.2.1
 have HVL := Lib.hid hv.1
 obtain ⟨xs, hat, hrs, hxl⟩ := hv.2.cells
 have X0 := Lib.hid hrs
 have HXL := Lib.hid hxl
 have ones : ∀ u ∈ xs, u.oneCell' = true := hrs.ones (fun c hc => by simp at hc; obtain ⟨l, _, rfl⟩ := hc; rfl)
 obtain ⟨q0, q1⟩ := al2 w (.cells #[.slice A lo.length c, .slice B ts.length d] 27) (.cells #[.slice none 0 0, .slice none 0 0] 27)
 have Q0 := Lib.hid q0
 have Q1 := Lib.hid q1
 clear hv hs hrs hxl q0 q1
 go_enter Tryz.func35, Tryz.ntmps35
 go_wp2_with fail
 refine (cloneNodes_any B ts.length d xs _ (hat.on (bal2 _ _ _)) HXL.out ones s2).mono ?_
 rintro e w1 ⟨u, rfl, ho1, b1⟩
 have hb1 := bstep (bal2 _ _ _) b1
 have q0 := box_on Q0.out b1
 have q1 := box_on Q1.out b1
 have hz := b1.size
 simp only [World.size_alloc] at hz ho1
 obtain ⟨Au, cu, rfl⟩ := row_form ho1
 have HO1 := Lib.hid ho1
 have P0 := Lib.hid q0
 have P1 := Lib.hid q1
 have HB1 := Lib.hid hb1
 clear b1 ones hat q0 q1 ho1 hb1
 have REL1 : Hid (CopyIn w (w.heap.size + 1 + 1) w.heap.size (.cells #[.slice A lo.length c, .slice B ts.length d] 27) (.slice Au ts.length cu) 62 1 ts.length 0 xs (ts.map setsD) w1) :=
  Lib.hid ⟨xs, HO1.out, by simpa using OwnsL.nil _ _, fun _ _ => rfl, P0.out, HB1.out⟩
 go_wp2
 go_loopw [11] (fun i wr => ∃ k : Nat, k ≤ ts.length ∧ i = .int .i64 k ∧ Hid (CopyIn w (w.heap.size + 1 + 1) w.heap.size (.cells #[.slice A lo.length c, .slice B ts.length d] 27) (.slice Au ts.length cu) 62 1 ts.length k xs (ts.map setsD) wr) ∧ Hid (wr.heap[w.heap.size + 1]? = some (.cells #[.slice none 0 0, .slice none 0 0] 27))) (fun i _ => ts.length - (intOf i).toNat)
 case atStart => exact ⟨0, Nat.zero_le _, rfl, REL1, P1⟩
 case round =>
  clear hz REL1
  obtain ⟨k, hk, rfl, HC, HP⟩ := hrel
  obtain ⟨zs, ho, hown, htl, hbx, hb⟩ := HC.out
  by_cases hlt : k < ts.length
  ·have hxk : k < xs.length := by rw [HXL.out]; omega
   rcases row_cases ho with ⟨_, h, _⟩ | ⟨g, cap, hu, hbg, hR, hn, hc, hl⟩
   ·omega
   ·cases hu
    have hzk : k < zs.length := by omega
    have ez : zs[k] = xs[k] := by
     have := htl k (Nat.le_refl _)
     rw [List.getElem?_eq_getElem hzk, List.getElem?_eq_getElem hxk] at this
     exact Option.some.inj this
    have c1 := hR.cell hzk
    rw [ez] at c1
    have rk := (X0.out.on hb).2 k hxk (by simpa using hlt)
    rw [List.getElem_map] at rk
    obtain ⟨Ak, dk, ek, _, _⟩ := rk.lenN
    rw [ek] at c1 rk
    have hg := hR.lt
    have hlk := Lib.hid (HS.out.at hlt)
    have i1 : (k : Int) < (ts.length : Int) := by omega
    have i2 : (0 : Int) ≤ (k : Int) := by omega
    have hne2 : ¬ w.heap.size = g := by omega
    have ba := bal1 wr (.cells #[.slice Ak (ts[k]).length dk] 62)
    have RK := Lib.hid (rk.on ba)
    have BA := Lib.hid ba
    have HOWN := Lib.hid hown
    have HO := Lib.hid ho
    have HT := Lib.hid htl
    have HR := Lib.hid hR
    have HBX := Lib.hid hbx
    have HZ := Lib.hid hzk
    have HBB := Lib.hid hb
    clear rk ek ez hown ho htl hR hbx hb hl hxk hzk HC ba
    go_wp2_with fail
    refine (copyNode_any _ ts[k] _ RK.out hlk.out).mono ?_
    rintro e w2 ⟨x, rfl, ox, b2'⟩
    have b2 := bstep BA.out b2'
    have hsz : wr.heap.size ≤ (wr.alloc (.cells #[.slice Ak (ts[k]).length dk] 62)).heap.size := BA.out.size
    have R2 := HR.out.keep (b2.block g hg)
    have cc := R2.cell HZ.out
    have ff := R2.frozen k
    obtain ⟨Ax, dx, rfl, _, _⟩ := ox.reads.lenN
    have NEW := Lib.hid (CopyIn.step (w := w) HO.out HOWN.out HT.out HBX.out HBB.out b2 (ox.mono (fun b hb => Nat.le_trans hsz hb)) hg (by omega) hne2 (by omega) hlt)
    have HP2 := Lib.hid (box_far (j := k) (u := .slice Ax (ts[k]).length dx) (box_on HP.out b2) (show w.heap.size + 1 ≠ g by omega))
    clear ox b2 b2' R2 c1 hsz
    go_wp2
    go_roundw
    case rel =>
     refine ⟨k + 1, by omega, by go_num, ?_, HP2⟩
     have h := NEW.out
     exact Lib.hid (h (by simpa using hlt) (by simp))
    case measure => simp [intOf]; omega
  ·have e : k = ts.length := by omega
   have hsec : Owns wr (fun b => w.heap.size + 1 + 1 ≤ b) (.slice Au ts.length cu) (nodesD ts) := by
    subst e
    have h1 : zs.length = ts.length * 1 := ho.1
    rw [List.take_of_length_le (by omega), List.take_of_length_le (by simp)] at hown
    exact row_owns ho hown (by simp)
   have HSEC := Lib.hid hsec.lt
   have HBB := Lib.hid hb
   obtain ⟨x0, x1, x2⟩ := box2 hbx
   have AT := Lib.hid ((HVL.out.on hb).atI)
   have hzw := (Array.getElem?_eq_some_iff.1 HP.out).1
   clear hsec hown ho htl hbx hb HC
   go_wp2_with fail
   refine (cloneInts_any A lo.length c (lo.map iV) _ AT.out (by simp) (one_iV _) s1).mono ?_
   rintro e w3 ⟨v3, rfl, o3, b3⟩
   obtain ⟨A3, c3, rfl⟩ := row_form o3
   have O3 := Lib.hid (row_ints o3)
   have ON := Lib.hid (HSEC.out.on b3)
   have B3 := Lib.hid (bstep HBB.out b3)
   have hz3 := b3.size
   clear x0 x1 x2
   obtain ⟨x0, x1, x2⟩ := box2 (box_on HP.out b3)
   clear o3 b3
   go_wp2
   have HO : ∀ a b, Only (fun b => b = w.heap.size + 1) w3 ((w3.setCell ⟨w.heap.size + 1, 0, none⟩ a).setCell ⟨w.heap.size + 1, 1, none⟩ b) := fun a b => only_two _ _ _ _ _ _
   refine bodyPost_ret (v := .agg #[.slice A3 lo.length c3, .slice Au ts.length cu]) (by simp [results, Tryz.results35, go_sem, x0, x1, x2]) rfl ⟨_, _, rfl, ⟨fun b => wr.heap.size ≤ b, fun b => w.heap.size + 1 + 1 ≤ b ∧ b < wr.heap.size, fun b hb => by omega, fun b hb => by omega, fun b hb hb' => by omega, O3.out.far (HO _ _) (fun b hb _ hb' => by omega), ON.out.far (HO _ _) (fun b hb _ hb' => by omega)⟩, B3.out.trans ((HO _ _).below B3.out.size (fun b hb => by omega))⟩
/-- What the region of spec.l6Copy reads. -/
def NC2 (p1 b1 o1 : Nat) (v1 e1 : Value) (p3 : Nat) (v3 : Value) (W : World) : Prop := W.cell? ⟨p1, 1, none⟩ = some v1 ∧ W.cell? ⟨b1, o1, none⟩ = some e1 ∧ W.cell? ⟨p3, 1, none⟩ = some v3
theorem NC2.on {p1 b1 o1 : Nat} {v1 e1 : Value} {p3 : Nat} {v3 : Value} {wr W : World} (h : NC2 p1 b1 o1 v1 e1 p3 v3 wr) (hb : Below wr.heap.size wr W) : NC2 p1 b1 o1 v1 e1 p3 v3 W :=
 have k : ∀ (b o : Nat) (v : Value), wr.cell? ⟨b, o, none⟩ = some v → W.cell? ⟨b, o, none⟩ = some v := fun b o _ hc => (World.cell?_of_block (a := ⟨b, o, none⟩) (hb.block b (World.block_lt_of_cell? wr _ hc))).trans hc
 ⟨k _ _ _ h.1, k _ _ _ h.2.1, k _ _ _ h.2.2⟩
theorem NC2.grown {p1 b1 o1 : Nat} {v1 e1 : Value} {p3 : Nat} {v3 : Value} {wr W : World} {g : Option Nat} (h : NC2 p1 b1 o1 v1 e1 p3 v3 wr) (hg : wr.grownBy W g) (h1 : g ≠ some p1) (h2 : g ≠ some b1) (h3 : g ≠ some p3) : NC2 p1 b1 o1 v1 e1 p3 v3 W :=
 have k : ∀ (b o : Nat) (v : Value), g ≠ some b → wr.cell? ⟨b, o, none⟩ = some v → W.cell? ⟨b, o, none⟩ = some v := fun b o _ hn hc => (World.cell?_of_block (a := ⟨b, o, none⟩) (hg.block b (World.block_lt_of_cell? wr _ hc) (fun e => hn e.symm))).trans hc
 ⟨k _ _ _ h1 h.1, k _ _ _ h2 h.2.1, k _ _ _ h3 h.2.2⟩
def NodesIn (W2 : World) (p3 : Nat) (vlo : Value) (ts : List NodeD) (k : Nat) (wr : World) : Prop :=
 ∃ u xs, wr.ownsRow (p3 + 1) 62 1 u k xs ∧ OwnsL wr (Tof (p3 + 1) u) xs ((ts.take k).map setsD) ∧ wr.heap[p3]? = some (.cells #[vlo, u] 27 (0, 0)) ∧ Below p3 W2 wr
theorem Below.of {B : Nat} {a b c : World} (h : Below B a b) (k : Below b.heap.size b c) (hB : B ≤ b.heap.size) : Below B a c := h.trans (k.mono hB)
set_option maxHeartbeats 8000000 in
theorem l6Copy_any (vl vn : Value) (lo : List Int) (ts : List NodeD) (w : World) (hv : RdT w w.heap.size vl vn lo ts) (hs : SmallT lo ts) : Calls Tryz.prog 38 #[.agg #[vl, vn]] w (NewTS w lo ts) := by
 obtain ⟨A, c, B, d, rfl, rfl⟩ := hv.shape
 have HS := Lib.hid hs
 have s1 := hs.1
 have s2 := hs.2.1
 obtain ⟨q0, q1⟩ := al2 w (.cells #[.slice A lo.length c, .slice B ts.length d] 27) (.cells #[.slice none 0 0, .slice none 0 0] 27)
 have hb2 := bal2 w (.cells #[.slice A lo.length c, .slice B ts.length d] 27) (.cells #[.slice none 0 0, .slice none 0 0] 27)
 have hz2 : ((w.alloc (.cells #[.slice A lo.length c, .slice B ts.length d] 27)).alloc (.cells #[.slice none 0 0, .slice none 0 0] 27)).heap.size = w.heap.size + 2 := by simp
 have HV0 := Lib.hid hv.2
 have HV := Lib.hid (hv.on hb2)
 have HB := Lib.hid hb2
 have Q0 := Lib.hid q0
 have Q1 := Lib.hid q1
 have HZ2 := Lib.hid hz2
 clear hv hs q0 q1 hb2 hz2
 go_enter Tryz.func38, Tryz.ntmps38
 go_upto_region 1 with (fail)
 generalize (w.alloc (.cells #[.slice A lo.length c, .slice B ts.length d] 27)).alloc (.cells #[.slice none 0 0, .slice none 0 0] 27) = W at *
 have ba := bal1 W (.cells #[] 3)
 have AT := Lib.hid ((HV.out.1.on ba).atI)
 have ho0 := row_lit W 3 1
 obtain ⟨x0, x1, x2⟩ := box2 (box_on Q0.out ba)
 have BA := Lib.hid ba
 have HON : Hid (∀ u ∈ lo.map iV, u.oneCell' = true) := Lib.hid (one_iV lo)
 clear ba
 go_wp2_with (at_builtin; refine wpList_appV _ rfl (.tmp 5) (.tmp 7) 24 3 1 8 (.int .i64 0) rfl Tryz.underlying24 (by kernel_rfl) rfl (by omega) (by omega) W.heap.size 0 _ [] rfl ho0 A lo.length c (lo.map iV) rfl (by simp) AT.out HON.out (by omega) (by simp) ?_; intro v1 w1 o1 g1 _ _; have b1 := Lib.hid (grown_below BA.out g1 ho0 (Nat.le_refl _)); clear g1 ho0 AT x0 x1 x2; rw [List.nil_append, Nat.zero_add] at o1; obtain ⟨Al, cl, rfl⟩ := row_form o1)
 have OL := Lib.hid (row_ints o1).lt
 have hz2 := Nat.le_of_eq HZ2.out
 have hz2' := Nat.le_of_eq HZ2.out.symm
 have hzb := b1.out.size
 clear o1
 have q3 := al1 w1 (.cells #[.slice Al lo.length cl, .slice none 0 0] 27)
 have ba := bal1 w1 (.cells #[.slice Al lo.length cl, .slice none 0 0] 27)
 have hzA : (w1.alloc (.cells #[.slice Al lo.length cl, .slice none 0 0] 27)).heap.size = w1.heap.size + 1 := by simp
 replace HB := Lib.hid (bstep (bstep HB.out b1.out) ba)
 replace HV := Lib.hid ((HV.out.on b1.out).on ba)
 replace Q0 := Lib.hid (box_on (box_on Q0.out b1.out) ba)
 replace Q1 := Lib.hid (box_on (box_on Q1.out b1.out) ba)
 replace OL := Lib.hid (OL.out.on ba)
 have Q3 := Lib.hid q3
 have HZA := Lib.hid hzA
 clear q3 ba b1 hzA
 go_upto_region 2 with (fail)
 generalize w1.alloc (.cells #[.slice Al lo.length cl, .slice none 0 0] 27) = W2 at *
 have hzA1 := Nat.le_of_eq HZA.out
 have hzA2 := Nat.le_of_eq HZA.out.symm
 have REL : Hid (NodesIn W2 w1.heap.size (.slice Al lo.length cl) ts 0 W2) := Lib.hid ⟨.slice none 0 0, [], row_nil _ _ _ _, by simpa using OwnsL.nil _ _, Q3.out, Below.refl _ _⟩
 go_wp2
 go_loopw [4] (fun i wr => ∃ k : Nat, k ≤ ts.length ∧ i = .int .i64 k ∧ Hid (NodesIn W2 w1.heap.size (.slice Al lo.length cl) ts k wr)) (fun i _ => ts.length - (intOf i).toNat)
 case atStart => exact ⟨0, Nat.zero_le _, rfl, REL⟩
 case round =>
  clear REL
  obtain ⟨k, hk, rfl, HC⟩ := hrel
  obtain ⟨u, xs, hr, ho, q3, hb⟩ := HC.out
  have q0 : wr.heap[w.heap.size]? = some (.cells #[.slice A lo.length c, .slice B ts.length d] 27) := (hb.block _ (by omega)).trans Q0.out
  obtain ⟨x0, x1, x2⟩ := box2 q0
  have hzW := hb.size
  have hbw : Below w.heap.size w wr := HB.out.trans (hb.mono (by omega))
  by_cases hlt : k < ts.length
  ·obtain ⟨b, off, hBe, hb0, _⟩ := HV0.out.node hlt
   subst hBe
   obtain ⟨b', off', hbe, _, hc⟩ := (HV0.out.on hbw).node hlt
   cases hbe
   obtain ⟨A2, d2, c1, _, _, r1⟩ := hc k hlt
   obtain ⟨z0, z1, z2⟩ := box2 q3
   obtain ⟨Au, cu, rfl⟩ := row_form hr
   have hz3 := (Array.getElem?_eq_some_iff.1 q3).1
   have i1 : (k : Int) < (ts.length : Int) := by omega
   have i2 : (0 : Int) ≤ (k : Int) := by omega
   have hlk := Lib.hid (HS.out.at hlt)
   have n1 : ¬ w1.heap.size = w.heap.size := by omega
   have n2 : ¬ w.heap.size = w1.heap.size := by omega
   have R1 := Lib.hid r1
   have Q3 := Lib.hid q3
   have HR := Lib.hid hr
   have HO := Lib.hid ho
   have HX := Lib.hid hb
   clear hc q0 q3 hr ho hb r1 HC hbw
   go_wp2
   have hSW : NC2 w.heap.size b (off + k) (.slice (some ⟨b, off, none⟩) ts.length d) (.slice A2 (ts[k]).length d2) w1.heap.size (.slice Au k cu) wr.drew := ⟨x1, c1, z1⟩
   have hSV : NC2 w.heap.size b (off + k) (.slice (some ⟨b, off, none⟩) ts.length d) (.slice A2 (ts[k]).length d2) w1.heap.size (.slice Au k cu) wr := ⟨x1, c1, z1⟩
   refine but_begin (f := 11) (S := NC2 w.heap.size b (off + k) (.slice (some ⟨b, off, none⟩) ts.length d) (.slice A2 (ts[k]).length d2) w1.heap.size (.slice Au k cu)) (by kernel_rfl) ?_
   refine but_take (f := 11) (i := 0) (v := ?v0) rfl (by kernel_rfl) (by kernel_rfl) (by kernel_rfl) (by kernel_rfl) (by kernel_rfl) (fun _ _ _ h => h) (Or.inl ⟨by rfl, ?hy0⟩) hSW ?rest0
   case hy0 =>
    intro W hW
    obtain ⟨h1, h2, h3⟩ := hW
    go_simp
    exact rfl
   simp only [List.getElem_toArray, List.getElem_cons_succ, List.getElem_cons_zero, Act.put, List.setIfInBounds_toArray, List.set_cons_zero, List.set_cons_succ]
   refine but_take (f := 11) (i := 1) (v := ?v1) rfl (by kernel_rfl) (by kernel_rfl) (by kernel_rfl) (by kernel_rfl) (by kernel_rfl) (fun _ _ _ h => h) (Or.inl ⟨by rfl, ?hy1⟩) hSW ?rest1
   case hy1 =>
    intro W hW
    obtain ⟨h1, h2, h3⟩ := hW
    go_simp
    exact rfl
   simp only [List.getElem_toArray, List.getElem_cons_succ, List.getElem_cons_zero, Act.put, List.setIfInBounds_toArray, List.set_cons_zero, List.set_cons_succ]
   refine but_take (f := 11) (i := 2) (v := ?v2) rfl (by kernel_rfl) (by kernel_rfl) (by kernel_rfl) (by kernel_rfl) (by kernel_rfl) (fun _ _ _ h => h) (Or.inl ⟨by rfl, ?hy2⟩) hSW ?rest2
   case hy2 =>
    intro W hW
    obtain ⟨h1, h2, h3⟩ := hW
    go_simp
    exact rfl
   simp only [List.getElem_toArray, List.getElem_cons_succ, List.getElem_cons_zero, Act.put, List.setIfInBounds_toArray, List.set_cons_zero, List.set_cons_succ]
   refine but_take (f := 11) (i := 3) (v := ?v3) rfl (by kernel_rfl) (by kernel_rfl) (by kernel_rfl) (by kernel_rfl) (by kernel_rfl) (fun _ _ _ h => h) (Or.inl ⟨by rfl, ?hy3⟩) hSW ?rest3
   case hy3 =>
    intro W hW
    obtain ⟨h1, h2, h3⟩ := hW
    go_simp
    exact rfl
   simp only [List.getElem_toArray, List.getElem_cons_succ, List.getElem_cons_zero, Act.put, List.setIfInBounds_toArray, List.set_cons_zero, List.set_cons_succ]
   refine but_take (f := 11) (i := 4) (v := ?v4) rfl (by kernel_rfl) (by kernel_rfl) (by kernel_rfl) (by kernel_rfl) (by kernel_rfl) (fun _ _ _ h => h) (Or.inl ⟨by rfl, ?hy4⟩) hSW ?rest4
   case hy4 =>
    intro W hW
    obtain ⟨h1, h2, h3⟩ := hW
    go_simp
    exact rfl
   simp only [List.getElem_toArray, List.getElem_cons_succ, List.getElem_cons_zero, Act.put, List.setIfInBounds_toArray, List.set_cons_zero, List.set_cons_succ]
   refine but_take (f := 11) (i := 5) (v := ?v5) rfl (by kernel_rfl) (by kernel_rfl) (by kernel_rfl) (by kernel_rfl) (by kernel_rfl) (fun _ _ _ h => h) (Or.inl ⟨by rfl, ?hy5⟩) hSW ?rest5
   case hy5 =>
    intro W hW
    obtain ⟨h1, h2, h3⟩ := hW
    go_simp
    exact rfl
   simp only [List.getElem_toArray, List.getElem_cons_succ, List.getElem_cons_zero, Act.put, List.setIfInBounds_toArray, List.set_cons_zero, List.set_cons_succ]
   refine but_take (f := 11) (i := 6) (v := ?v6) rfl (by kernel_rfl) (by kernel_rfl) (by kernel_rfl) (by kernel_rfl) (by kernel_rfl) (fun _ _ _ h => h) (Or.inl ⟨by rfl, ?hy6⟩) hSW ?rest6
   case hy6 =>
    intro W hW
    obtain ⟨h1, h2, h3⟩ := hW
    go_simp
    exact rfl
   simp only [List.getElem_toArray, List.getElem_cons_succ, List.getElem_cons_zero, Act.put, List.setIfInBounds_toArray, List.set_cons_zero, List.set_cons_succ]
   refine but_run (i := 7) (by kernel_rfl) rfl (by rfl) ?_
   simp only [List.getElem_toArray, List.getElem_cons_succ, List.getElem_cons_zero]
   intro K_ HK
   go_wp2_with fail
   refine (l5Copy_any _ ts[k] _ (R1.out.on (Below.drew1 _)) hlk.out).mono ?_
   rintro e w6 ⟨v6, rfl, o6, b6'⟩
   obtain ⟨A6, c6, rfl, _, _⟩ := o6.reads.lenN
   have b6 : Below wr.heap.size wr w6 := bstep (Below.drew1 _) b6'
   have hS6 := hSV.on b6
   go_wp2_with fail
   refine HK.out _ _ (fun _ => hS6) ?_
   clear HK
   have B6 := Lib.hid b6
   have O6 : Hid (Owns w6 (fun b => wr.heap.size ≤ b) (.slice A6 (ts[k]).length c6) (setsD ts[k])) := Lib.hid o6
   clear o6 b6 b6'
   try simp only [Act.put, List.setIfInBounds_toArray, List.set_cons_zero, List.set_cons_succ]
   refine but_run (i := 8) (by kernel_rfl) rfl (by rfl) ?_
   simp only [List.getElem_toArray, List.getElem_cons_succ, List.getElem_cons_zero]
   intro K_ HK
   go_wp2
   have hS7 := hS6.on (bal1 w6 (.cells #[.slice A6 (ts[k]).length c6] 62))
   refine HK.out _ _ (fun _ => hS7) ?_
   clear HK
   have hz6 := B6.out.size
   refine but_run (i := 9) (by kernel_rfl) rfl (by rfl) ?_
   simp only [List.getElem_toArray, List.getElem_cons_succ, List.getElem_cons_zero]
   intro K_ HK
   refine operAppN _ (by rfl) (.tmp 18) (.tmp 25) 25 62 1 24 (.agg #[.slice none 0 0]) (by rfl) Tryz.underlying25 (by kernel_rfl) rfl (by omega) (by omega) (w1.heap.size + 1) k _ xs (by rfl) (row_on (row_on HR.out B6.out) (bal1 _ _)) _ 1 1 [.slice A6 (ts[k]).length c6] (by rfl) rfl (At.lit1 _ _ _) (by simp [Value.oneCell']) (by omega) (by simp; omega) ?_
   intro v8 w8 o8 g8 n8 at8
   have h8 := box_grown (box_on (box_on Q3.out B6.out) (bal1 _ _)) g8 (row_ne HR.out (by omega))
   have hS8 := hS7.grown g8 (row_ne HR.out (by omega)) (row_ne HR.out (by omega)) (row_ne HR.out (by omega))
   refine HK.out _ _ (fun _ => hS8) ?_
   clear HK
   have O8 := Lib.hid o8
   have G8 := Lib.hid g8
   have AT8 := Lib.hid at8
   obtain ⟨gv, cv, rfl⟩ := row_shape o8 (by omega)
   obtain ⟨f0, f1, f2⟩ := box2 h8
   have H8 := Lib.hid h8
   clear h8 o8 g8 at8 n8
   simp only [Act.put, List.setIfInBounds_toArray, List.set_cons_zero, List.set_cons_succ]
   refine but_run (i := 10) (by kernel_rfl) rfl (by rfl) ?_
   simp only [List.getElem_toArray, List.getElem_cons_succ, List.getElem_cons_zero]
   intro K_ HK
   go_wp2
   refine HK.out _ _ (fun _ => hS8) ?_
   clear HK
   refine but_run (i := 11) (by kernel_rfl) rfl (by rfl) ?_
   simp only [List.getElem_toArray, List.getElem_cons_succ, List.getElem_cons_zero]
   intro K_ HK
   go_wp2
   refine HK.out _ _ (fun h => (h rfl).elim) ?_
   clear HK
   have B7 := Lib.hid (bstep B6.out (bal1 w6 (.cells #[.slice A6 (ts[k]).length c6] 62)))
   have HX2 := Lib.hid (own_grow HR.out HO.out B7.out (OwnsL.one ((O6.out.on (bal1 _ (.cells #[.slice A6 (ts[k]).length c6] 62))).lt)) G8.out AT8.out (by omega))
   have HB8 : Hid (Below w1.heap.size W2 w8) := Lib.hid (((HX.out.trans (B7.out.mono (by omega))).grown G8.out (Nat.le_trans (Nat.le_trans (by omega) hzW) (Nat.le_trans (Nat.le_refl _) B7.out.size)) (fun k hk => by have := (row_lt (row_on HR.out B7.out) k hk).2; omega)))
   have NEW : Hid (NodesIn W2 w1.heap.size (.slice Al lo.length cl) ts (k + 1) (w8.setCell ⟨w1.heap.size, 1, none⟩ (.slice (some ⟨gv, 0, none⟩) (k + 1) cv))) := by
    refine Lib.hid ⟨_, _, row_keep O8.out (fun g hg => Below.heap_setCell _ _ _ _ (by have := (row_lt O8.out g hg).2; simp; omega)), ?_, box_set H8.out, HB8.out.setCell (p := ⟨w1.heap.size, 1, none⟩) (Nat.le_refl _) _⟩
    rw [List.take_succ_eq_append_getElem hlt, List.map_append]
    exact HX2.out.keep (fun b hb _ => Below.heap_setCell _ _ _ _ (by have := hb.1; simp; omega))
   clear HX2 HB8 O8 G8 AT8 H8 HR HO Q3 B7 B6 O6
   refine but_done (by kernel_rfl) ?_
   go_wp2
   go_roundw
   case rel => exact ⟨k + 1, by omega, by go_num, NEW⟩
   case measure => simp [intOf]; omega
  ·have e : k = ts.length := by omega
   subst e
   rw [List.take_of_length_le (Nat.le_refl _)] at ho
   obtain ⟨Au, cu, rfl⟩ := row_form hr
   obtain ⟨z0, z1, z2⟩ := box2 q3
   have q1 : wr.heap[w.heap.size + 1]? = some (.cells #[.slice none 0 0, .slice none 0 0] 27) := (hb.block _ (by omega)).trans Q1.out
   obtain ⟨y0, y1, y2⟩ := box2 q1
   have hsec : Owns wr (fun b => w1.heap.size + 1 ≤ b) (.slice Au ts.length cu) (nodesD ts) := row_owns hr ho (by simp)
   have HSEC := Lib.hid hsec
   have HLW : Hid (Owns wr (fun b => W.heap.size ≤ b ∧ b < w1.heap.size) (.slice Al lo.length cl) (intsD lo)) := Lib.hid (OL.out.keep (fun b hb' _ => hb.block b hb'.2))
   have HBB := Lib.hid hbw
   have n3 : ¬ w1.heap.size = w.heap.size + 1 := by omega
   clear hsec ho hr q0 q1 q3 hb HC hbw
   go_wp2
   have HO : ∀ a b, Only (fun b => b = w.heap.size + 1) wr ((wr.setCell ⟨w.heap.size + 1, 0, none⟩ a).setCell ⟨w.heap.size + 1, 1, none⟩ b) := fun a b => only_two _ _ _ _ _ _
   refine bodyPost_ret (v := .agg #[.slice Al lo.length cl, .slice Au ts.length cu]) (by simp [results, Tryz.results38, go_sem, y0, y1, y2]) rfl ⟨_, _, rfl, ⟨fun b => W.heap.size ≤ b ∧ b < w1.heap.size, fun b => w1.heap.size + 1 ≤ b, fun b hb => by omega, fun b hb => by omega, fun b hb hb' => by omega, HLW.out.far (HO _ _) (fun b hb _ hb' => by omega), HSEC.out.far (HO _ _) (fun b hb _ hb' => by omega)⟩, HBB.out.trans ((HO _ _).below HBB.out.size (fun b hb => by omega))⟩
end Go.Proofs.YthopkhpiikiknaaGreat
namespace Go.Proofs.YthopkhpiikiknaaGreat
open Go.RowKit Go.Shelf
set_option maxRecDepth 100000
set_option linter.unusedSimpArgs false
set_option linter.unusedVariables false

theorem round_any {P : Program} {n m l : Nat} {f : FuncId} {tmps : Array Value} {assign body : Code} {w : World} {R : Ending → World → Prop} (h : RoundIn Fence.wide n P l f tmps assign body w R) : RoundIn Fence.wide m P l f tmps assign body w R :=
 ⟨h.1, fun c cs _ => h.2 c cs (room_wide _)⟩
/-- A call of yield goes through, as one round of loop l. -/
def Yields (P : Program) (l : Nat) (args : Array Value) (W : World) (R : Ending → World → Prop) : Prop :=
 ∃ fn tmps assign body, (Instr.yield l args).run P W = .ok (.round l fn tmps assign body) W ∧ ∀ m, RoundIn Fence.wide m P l fn tmps assign body W R
/-- V' is V but for blocks from n₀ to B, rows of elements of type E from B on, and new blocks. -/
structure Kept (E : TypeId) (n₀ B : Nat) (V V' : World) : Prop where
 os : V'.os = V.os
 tape : V'.tape = V.tape
 output : V'.output = V.output
 size : V.heap.size ≤ V'.heap.size
 block : ∀ k, k < V.heap.size → (k < n₀ ∨ (B ≤ k ∧ ∀ cur, V.heap[k]? ≠ some (.cells cur E (0, 0)))) → V'.heap[k]? = V.heap[k]?
theorem Kept.refl (E : TypeId) (n₀ B : Nat) (V : World) : Kept E n₀ B V V := ⟨rfl, rfl, rfl, Nat.le_refl _, fun _ _ _ => rfl⟩
theorem Kept.trans {E : TypeId} {n₀ B : Nat} {V V' V'' : World} (h : Kept E n₀ B V V') (k : Kept E n₀ B V' V'') : Kept E n₀ B V V'' :=
 ⟨k.os.trans h.os, k.tape.trans h.tape, k.output.trans h.output, Nat.le_trans h.size k.size, fun i hi hc => by
  have e := h.block i hi hc
  refine (k.block i (Nat.lt_of_lt_of_le hi h.size) ?_).trans e
  rcases hc with hc | ⟨h1, h2⟩
  ·exact .inl hc
  ·exact .inr ⟨h1, fun cur => by rw [e]; exact h2 cur⟩⟩
theorem Kept.mono {E : TypeId} {n₀ n₁ B B' : Nat} {V V' : World} (h : Kept E n₀ B V V') (hn : n₁ ≤ n₀) (hB : B ≤ B') : Kept E n₁ B' V V' :=
 ⟨h.os, h.tape, h.output, h.size, fun k hk hc => h.block k hk (hc.elim (fun h => .inl (by omega)) (fun h => .inr ⟨by omega, h.2⟩))⟩
theorem Only.kept {S : Nat → Prop} {V V' : World} (h : Only S V V') (E : TypeId) {n₀ B : Nat} (hS : ∀ b, S b → n₀ ≤ b ∧ (B ≤ b → ∃ cur, V.heap[b]? = some (.cells cur E (0, 0)))) : Kept E n₀ B V V' :=
 ⟨h.os, h.tape, h.output, h.size, fun k hk hc => h.block k hk (fun hs => by
  rcases hc with hc | ⟨h1, h2⟩
  ·have := (hS k hs).1; omega
  ·obtain ⟨cur, hcur⟩ := (hS k hs).2 h1
   exact h2 cur hcur)⟩
theorem Kept.of_below {V V' : World} (h : Below V.heap.size V V') (E : TypeId) (n₀ B : Nat) : Kept E n₀ B V V' := ⟨h.os, h.tape, h.output, h.size, fun k hk _ => h.block k hk⟩
theorem Kept.below {E : TypeId} {n₀ B : Nat} {V V' : World} (h : Kept E n₀ B V V') : Below n₀ V V' ∨ V.heap.size < n₀ := by
 by_cases hn : V.heap.size < n₀
 ·exact .inr hn
 ·exact .inl ⟨h.os, h.tape, h.output, h.size, fun k hk => h.block k (by omega) (.inl hk)⟩
theorem Kept.box {E : TypeId} {n₀ B : Nat} {V V' : World} (h : Kept E n₀ B V V') {k : Nat} {o : Obj} (hk : V.heap[k]? = some o) (hB : B ≤ k) (ho : ∀ cur, o ≠ .cells cur E (0, 0)) : V'.heap[k]? = some o :=
 (h.block k (Array.getElem?_eq_some_iff.1 hk).1 (.inr ⟨hB, fun cur e => ho cur (by rw [hk] at e; exact Option.some.inj e)⟩)).trans hk
/-- The closure g hands out the list xs, one by one, or a part of it if a round says so. -/
def SeqL {α : Type} (E : TypeId) (P : Program) (g : Nat) (lb : Array Value) (encs : α → Array Value) (n₀ : Nat) (xs : List α) (w : World) : Prop :=
 ∀ (l : Nat) (J Jx : List α → World → Prop) (W : World), Below w.heap.size w W → OwnFrom W.heap.size J → OwnFrom W.heap.size Jx →
  (∀ pre x V, pre ++ [x] <+: xs → J pre V → Yields P l (encs x) V fun e V' => (e = .returned (.bool true) ∧ J (pre ++ [x]) V' ∧ Kept E n₀ W.heap.size V V') ∨ (e = .returned (.bool false) ∧ Jx (pre ++ [x]) V' ∧ Kept E 0 W.heap.size V V')) →
  J [] W → Calls P g (#[.func (.yield l) #[] #[]] ++ lb) W fun e V' => (∃ v, e = .returned v) ∧ (J xs V' ∨ ∃ pre, pre <+: xs ∧ Jx pre V')
/-- How the body of a round may be left. -/
def leftL {α : Type} (E : TypeId) (n₀ B : Nat) (I : List α → World → Prop) (Ix : Code → List α → World → Prop) (ys : List α) (W : World) : Exit → Act → World → Prop
 |.normal, _, W' => Kept E n₀ B W W' ∧ I ys W'
 |.ret, _, W' => Kept E 0 B W W' ∧ Ix .ret ys W'
 |.exit id, _, W' => Kept E 0 B W W' ∧ Ix (.exit id) ys W'
 |.goto t, _, W' => Kept E 0 B W W' ∧ Ix (.goto t) ys W'
 |.panic _, _, _ => False
 |.outgrown, _, _ => False
theorem only_put {S : Nat → Prop} (W : World) (l : Nat) (o : Obj) (h : S l) : Only S W (W.putObj l o) := Only.of_grown (grownBy_putObj' W l o) h
theorem rangeL {α : Type} {E : TypeId} {P : Program} {n : Nat} {g : Operand} {ps : Array Tmp} {assign body : Code} {Q : Exit → Act → World → Prop} {a : Act} {w : World} {gf : Nat} {lb : Array Value}
  (hg : a.eval g = .func (.func gf) #[] lb) (eg : ∀ args w, (callFunc gf args).run P w = .ok (.enter gf args) w) {encs : α → Array Value} {n₀ : Nat} {xs : List α} {w0 : World} (hseq : SeqL E P gf lb encs n₀ xs w0) (hb0 : Below w0.heap.size w0 w) (hn₀ : n₀ ≤ w.heap.size) (hps : ∀ x, (encs x).size = ps.size)
  (I : List α → World → Prop) (Ix : Code → List α → World → Prop) (hI : OwnFrom w.heap.size I) (hIx : ∀ c, OwnFrom w.heap.size (Ix c)) (h0 : I [] w) (Ax : α → Act → World → Prop) (hAx : ∀ x a', OwnFrom w.heap.size (fun (_ : Unit) W => Ax x a' W))
  (hassign : ∀ (l : Nat) (pre : List α) (x : α) (W : World) (K : Act → World → Prop), pre ++ [x] <+: xs → I pre W → (∀ a' W', Only (fun _ => False) W W' → I pre W' → Ax x a' W' → K a' W') →
   assign.wpIn (Fence.wide.inRound l) n P (Exit.then K (fun _ _ _ => False)) { tmps := (ps.zip (encs x)).foldl (fun t (p, v) => t.setIfInBounds p v) a.tmps, defers := [] } W)
  (hbody : ∀ (l : Nat) (pre : List α) (x : α) (a' : Act) (W : World), pre ++ [x] <+: xs → I pre W → Ax x a' W → body.wpIn (Fence.wide.inRound l) n P (leftL E n₀ w.heap.size I Ix (pre ++ [x]) W) a' W)
  (hdone : ∀ (D : Nat) (W : World), w.heap.size ≤ D → I xs W → W.heap[D]? = some (.deferred (some [])) → Q .normal { a with defers := { target := .collected D, args := #[] } :: a.defers } W)
  (hstop : ∀ (D : Nat) (c : Code) (pre : List α) (W : World), w.heap.size ≤ D → pre <+: xs → Ix c pre W → W.heap[D]? = some (.deferred (some [])) → c.wpIn Fence.wide n P Q { a with defers := { target := .collected D, args := #[] } :: a.defers } W) :
  (Code.rangeFunc g ps assign body).wpIn Fence.wide n P Q a w := by
 refine wpIn_rangeFunc (fun fn hfn => ?_)
 let rec' (st : LoopState) (pe : Option Code) : Loop := { state := st, pending := pe, fn, tmps := a.tmps, params := ps, assign, body, defers := w.heap.size }
 obtain ⟨rc, hrc⟩ : ∃ rc, rc = rec' := ⟨_, rfl⟩
 obtain ⟨W1, hW1⟩ : ∃ W1, (w.alloc (.deferred (some []))).alloc (.loop (rc .ready none)) = W1 := ⟨_, rfl⟩
 have hz : W1.heap.size = w.heap.size + 2 := by rw [← hW1]; simp
 have q := al2 w (.deferred (some [])) (.loop (rc .ready none))
 rw [hW1] at q
 obtain ⟨q0, q1⟩ := q
 have hb1 : Below w.heap.size w W1 := by rw [← hW1]; exact bal2 _ _ _
 have keep : ∀ {A B : World} {row : Option Nat} {k : Nat} {o : Obj}, A.grownBy B row → (∀ r, row = some r → W1.heap.size ≤ r ∧ ∃ o : Obj, A.heap[r]? = some o ∧ o.isCells = false) → k < w.heap.size + 2 → A.heap[k]? = some o → B.heap[k]? = some o := by
  intro A B row k o hg' hr hk ho
  refine (hg'.block k (Array.getElem?_eq_some_iff.1 ho).1 (fun e => ?_)).trans ho
  have := (hr k e.symm).1
  omega
 have low : ∀ {A : World} {row : Option Nat}, (∀ r, row = some r → W1.heap.size ≤ r ∧ ∃ o : Obj, A.heap[r]? = some o ∧ o.isCells = false) → ∀ r, row = some r → w.heap.size ≤ r ∧ ∃ o : Obj, A.heap[r]? = some o ∧ o.isCells = false :=
  fun hr r e => ⟨by have := (hr r e).1; omega, (hr r e).2⟩
 refine ⟨w.heap.size + 1, [{ target := .collected w.heap.size, args := #[] }], W1, { target := .fn (.func gf) lb, args := #[.func (.yield (w.heap.size + 1)) #[] #[]] }, W1, gf,
  #[.func (.yield (w.heap.size + 1)) #[] #[]] ++ lb, W1, by rw [← hW1, hrc]; exact run_enterLoop_outer _ _ _ _ _, ?_, fun _ _ => trivial, ?_, (fun h => by cases h), callsIn_wide.2 ?_⟩
 ·simp only [resolve, hg]
  simp [go_sem]
 ·simp [invoke, go_sem, eg]
 ·refine (hseq (w.heap.size + 1)
   (fun pre W => I pre W ∧ W.heap[w.heap.size + 1]? = some (.loop (rc .ready none)) ∧ W.heap[w.heap.size]? = some (.deferred (some [])))
   (fun pre W => ∃ c, Ix c pre W ∧ W.heap[w.heap.size + 1]? = some (.loop (rc .done (some c))) ∧ W.heap[w.heap.size]? = some (.deferred (some [])))
   W1 (hb0.trans (hb1.mono hb0.size))
   (fun s A B row hs hg' hr => ⟨hI s A B row hs.1 hg' (low hr), keep hg' hr (by omega) hs.2.1, keep hg' hr (by omega) hs.2.2⟩)
   (fun s A B row hs hg' hr => by
    obtain ⟨c, h1, h2, h3⟩ := hs
    exact ⟨c, hIx c s A B row h1 hg' (low hr), keep hg' hr (by omega) h2, keep hg' hr (by omega) h3⟩)
   ?_ ⟨by rw [← hW1]; exact hI.alloc _ (hI.alloc _ h0), q1, q0⟩).mono ?_
  ·rintro pre x V hpx ⟨hi, hl, hk⟩
   have hy := run_yield (P := P) (args := encs x) hl (by rw [hrc]; exact hps x)
   rw [hrc] at hy
   refine ⟨fn, _, assign, body, hy, fun m => round_any (n := n) (roundIn_of_wpIn trivial (hassign _ pre x V _ hpx hi ?_))⟩
   clear hy
   intro a' Va hoa hia hax
   have hl' := box_only hl hoa (fun h => h)
   have hk' := box_only hk hoa (fun h => h)
   have hlt : w.heap.size + 1 < Va.heap.size := (Array.getElem?_eq_some_iff.1 hl').1
   refine ⟨_, run_beginRound hl' (by rw [hrc]), ?_⟩
   obtain ⟨Vb, hVb⟩ : ∃ Vb, Va.putObj (w.heap.size + 1) (.loop { rc .ready none with state := .busy }) = Vb := ⟨_, rfl⟩
   have hob : Only (fun b => b = w.heap.size + 1) Va Vb := by rw [← hVb]; exact only_put _ _ _ rfl
   have hlb : Vb.heap[w.heap.size + 1]? = some (.loop { rc .ready none with state := .busy }) := by rw [← hVb]; exact World.putObj_heap_same hlt
   have hkb : Vb.heap[w.heap.size]? = some (.deferred (some [])) := by rw [← hVb]; exact (World.putObj_heap_other (by omega)).trans hk'
   have hib : I pre Vb := by rw [← hVb]; exact hI.putObj _ hia (by omega) hl' rfl
   have hab : Ax x a' Vb := by rw [← hVb]; exact (hAx x a').putObj (s := ()) _ hax (by omega) hl' rfl
   rw [hVb]
   refine wpIn_mono (hbody _ pre x a' Vb hpx hib hab) ?_
   have fin : ∀ (jump : Option Code) (n₁ : Nat) (V3 : World), n₁ ≤ w.heap.size → Kept E n₁ w.heap.size Vb V3 → ∃ V4, (Instr.endRound (w.heap.size + 1) jump).run P V3 = .ok (.bool jump.isNone) V4 ∧ V4 = V3.putObj (w.heap.size + 1) (.loop (rc (if jump.isNone then .ready else .done) jump)) ∧
     V3.heap[w.heap.size + 1]? = some (.loop { rc .ready none with state := .busy }) ∧ V4.heap[w.heap.size + 1]? = some (.loop (rc (if jump.isNone then .ready else .done) jump)) ∧ V4.heap[w.heap.size]? = some (.deferred (some [])) ∧ Kept E n₁ W1.heap.size V V4 := by
    intro jump n₁ V3 hn1 ho3
    have hl3 := ho3.box hlb (by omega) (fun _ h => by cases h)
    have hk3 := ho3.box hkb (Nat.le_refl _) (fun _ h => by cases h)
    have hr := run_endRound (P := P) jump hl3
    rw [hrc] at hr ⊢
    refine ⟨_, hr, rfl, by rw [hrc] at hl3; exact hl3, World.putObj_heap_same (Array.getElem?_eq_some_iff.1 hl3).1, (World.putObj_heap_other (by omega)).trans hk3, ?_⟩
    have t1 : Kept E n₁ W1.heap.size V Va := hoa.kept E (fun _ h => h.elim)
    have t2 : Kept E n₁ W1.heap.size Va Vb := hob.kept E (fun b h => ⟨by omega, fun _ => by omega⟩)
    exact ((t1.trans t2).trans (ho3.mono (Nat.le_refl _) (by omega))).trans ((only_put (S := fun b => b = w.heap.size + 1) _ _ _ rfl).kept E (fun b h => ⟨by omega, fun _ => by omega⟩))
   rintro e a3 V3 hp
   cases e with
   |normal =>
    obtain ⟨ho3, hi3⟩ := hp
    obtain ⟨V4, hr, hV4, hl3, hl4, hk4, ho4⟩ := fin none n₀ V3 hn₀ ho3
    exact ⟨_, _, hr, .inl ⟨rfl, ⟨by rw [hV4]; exact hI.putObj _ hi3 (by omega) hl3 rfl, hl4, hk4⟩, ho4⟩⟩
   |ret =>
    obtain ⟨ho3, hi3⟩ := hp
    obtain ⟨V4, hr, hV4, hl3, hl4, hk4, ho4⟩ := fin (some .ret) 0 V3 (Nat.zero_le _) ho3
    exact ⟨_, _, hr, .inr ⟨rfl, ⟨.ret, by rw [hV4]; exact (hIx _).putObj _ hi3 (by omega) hl3 rfl, hl4, hk4⟩, ho4⟩⟩
   |exit id =>
    obtain ⟨ho3, hi3⟩ := hp
    obtain ⟨V4, hr, hV4, hl3, hl4, hk4, ho4⟩ := fin (some (.exit id)) 0 V3 (Nat.zero_le _) ho3
    exact ⟨_, _, hr, .inr ⟨rfl, ⟨.exit id, by rw [hV4]; exact (hIx _).putObj _ hi3 (by omega) hl3 rfl, hl4, hk4⟩, ho4⟩⟩
   |goto t =>
    obtain ⟨ho3, hi3⟩ := hp
    obtain ⟨V4, hr, hV4, hl3, hl4, hk4, ho4⟩ := fin (some (.goto t)) 0 V3 (Nat.zero_le _) ho3
    exact ⟨_, _, hr, .inr ⟨rfl, ⟨.goto t, by rw [hV4]; exact (hIx _).putObj _ hi3 (by omega) hl3 rfl, hl4, hk4⟩, ho4⟩⟩
   |panic ch => exact hp.elim
   |outgrown => exact hp.elim
  ·rintro e W2 ⟨⟨v, rfl⟩, (⟨hi, hl, hk⟩ | ⟨pre, hpre, c, hi, hl, hk⟩)⟩
   ·have he := run_endLoop (P := P) hl (by rw [hrc]; simp [rec'])
    rw [hrc] at he
    exact ⟨none, _, he, hdone _ _ (Nat.le_refl _) (hI.putObj _ hi (by omega) hl rfl) ((World.putObj_heap_other (by omega)).trans hk)⟩
   ·have he := run_endLoop (P := P) hl (by rw [hrc]; simp [rec'])
    rw [hrc] at he
    exact ⟨some c, _, he, hstop _ c pre _ (Nat.le_refl _) hpre ((hIx c).putObj _ hi (by omega) hl rfl) ((World.putObj_heap_other (by omega)).trans hk)⟩
end Go.Proofs.YthopkhpiikiknaaGreat
namespace Go.Proofs.YthopkhpiikiknaaGreat
open Go.RowKit Go.Shelf
set_option maxRecDepth 100000
set_option linter.unusedSimpArgs false
set_option linter.unusedVariables false
attribute [local go_sem] Oper.semAt_some

/-- One set as an iterator hands it out: its index, its slice, its keys. -/
structure SV where
 (i : Nat) (A : Option Addr) (c : Nat) (ks : List KeyD)
def encS (x : SV) : Array Value := #[.int .i64 (x.i : Int), .slice x.A x.ks.length x.c]
/-- The cells of the sets lie below n₀, and so do their keys. -/
def SetsAt (W : World) (n₀ : Nat) (A : Option Addr) (zs : List SV) : Prop := (∀ k (h : k < zs.length), (zs[k]).i = k) ∧ (zs = [] ∨ ∃ b off, A = some ⟨b, off, none⟩ ∧ b < n₀ ∧ ∀ k (h : k < zs.length), W.cell? ⟨b, off + k, none⟩ = some (.slice (zs[k]).A (zs[k]).ks.length (zs[k]).c))
theorem SetsAt.below {W W' : World} {n₀ : Nat} {A : Option Addr} {zs : List SV} (h : SetsAt W n₀ A zs) (hb : Below n₀ W W') : SetsAt W' n₀ A zs := by
 obtain ⟨h1, h | ⟨b, off, h2, h3, h4⟩⟩ := h
 ·exact ⟨h1, .inl h⟩
 ·exact ⟨h1, .inr ⟨b, off, h2, h3, fun k hk => (hb.cell (p := ⟨b, off + k, none⟩) h3).trans (h4 k hk)⟩⟩
theorem only_below {E : TypeId} {n₀ B : Nat} {V V' : World} (h : Kept E n₀ B V V') (hn : n₀ ≤ V.heap.size) : Below n₀ V V' := h.below.elim (fun h => h) (fun h => by omega)
theorem take_pre {α : Type} {zs : List α} {k : Nat} (h : k < zs.length) : zs.take k ++ [zs[k]] <+: zs := by
 rw [← List.take_succ_eq_append_getElem h]
 exact List.take_prefix _ _
set_option maxHeartbeats 2000000 in
theorem all_seq (E : TypeId) (Bs n₀ : Nat) (A : Option Addr) (c : Nat) (zs : List SV) (hm : zs.length ≤ 1100000) (hBs : Bs < n₀) (w : World) (hn₀ : n₀ ≤ w.heap.size) (hc : w.cell? ⟨Bs, 0, none⟩ = some (.slice A zs.length c)) (hz : SetsAt w n₀ A zs) :
  SeqL E Tryz.prog 110 #[.pointer (some ⟨Bs, 0, none⟩)] encS n₀ zs w := by
 intro l J Jx W hW hJ hJx hY h0
 have hc' : W.cell? ⟨Bs, 0, none⟩ = some (.slice A zs.length c) := (hW.cell (p := ⟨Bs, 0, none⟩) (show Bs < w.heap.size by omega)).trans hc
 have HZ := Lib.hid (hz.below (hW.mono hn₀))
 have hnW : n₀ ≤ W.heap.size := Nat.le_trans hn₀ hW.size
 clear hc hz hW hJ hJx
 refine (callsIn_wide (n := 1)).1 ?_
 refine callsIn_of_wp Tryz.func110 rfl trivial ?_ rfl
 simp only [Tryz.ntmps110, List.size_toArray, List.length_cons, List.length_nil, Nat.reduceAdd, Nat.reduceSub, Array.replicate_succ, Array.replicate_zero, List.push_toArray, List.append_toArray, List.nil_append, List.cons_append]
 gi_wp2
 gi_loopw [7] (fun i wr => ∃ k : Nat, k ≤ zs.length ∧ i = .int .i64 k ∧ Hid (J (zs.take k) wr) ∧ Hid (Below n₀ W wr)) (fun i _ => zs.length - (intOf i).toNat)
 case atStart => exact ⟨0, Nat.zero_le _, rfl, Lib.hid h0, Lib.hid (Below.refl _ _)⟩
 case round =>
  obtain ⟨k, hk, rfl, HJ, HX⟩ := hrel
  by_cases hlt : k < zs.length
  ·obtain ⟨hi, hz⟩ := HZ.out
   obtain ⟨b, off, rfl, hb, hcc⟩ : ∃ b off, A = some ⟨b, off, none⟩ ∧ b < n₀ ∧ ∀ k (h : k < zs.length), W.cell? ⟨b, off + k, none⟩ = some (.slice (zs[k]).A (zs[k]).ks.length (zs[k]).c) := by
    rcases hz with h | h
    ·rw [h] at hlt; simp at hlt
    ·exact h
   have y0 := (HX.out.cell (p := ⟨b, off + k, none⟩) hb).trans (hcc k hlt)
   obtain ⟨fn, tmps, assign, body, hy, hR⟩ := hY _ zs[k] wr (take_pre hlt) HJ.out
   unfold encS at hy
   rw [hi k hlt] at hy
   have HR := Lib.hid hR
   have hsz := HX.out.size
   have HT : Hid (zs.take (k + 1) = zs.take k ++ [zs[k]]) := Lib.hid (List.take_succ_eq_append_getElem hlt)
   have i2 : (k : Int) < (zs.length : Int) := by omega
   have i3 : (0 : Int) ≤ (k : Int) := by omega
   clear hcc hi hz hR
   gi_wp2
   refine (HR.out _).mono ?_
   rintro e W3 (⟨rfl, hJ3, ho3⟩ | ⟨rfl, hJx3, ho3⟩)
   ·gi_wp2
    go_roundw
    case rel => exact ⟨k + 1, by omega, by go_num, Lib.hid (by rw [HT.out]; exact hJ3), Lib.hid (HX.out.trans (only_below ho3 (Nat.le_trans hnW hsz)))⟩
    case measure => simp [intOf]; omega
   ·gi_wp2
    refine bodyPost_ret (results_none rfl _ _ _) rfl ?_
    exact ⟨⟨_, rfl⟩, .inr ⟨_, take_pre hlt, hJx3⟩⟩
  ·have e : k = zs.length := by omega
   subst e
   have HJ2 := HJ.out
   rw [List.take_length] at HJ2
   gi_wp2
   go_end0
   exact ⟨⟨_, rfl⟩, .inl HJ2⟩
theorem rev_take {α : Type} {zs : List α} {k : Nat} (h : k < zs.length) : zs.reverse.take (zs.length - k) = zs.reverse.take (zs.length - (k + 1)) ++ [zs[k]] := by
 rw [show zs.length - k = (zs.length - (k + 1)) + 1 by omega, List.take_succ_eq_append_getElem (by simp; omega)]
 congr 2
 rw [List.getElem_reverse]
 congr 1
 omega
theorem rev_pre {α : Type} {zs : List α} {k : Nat} (h : k < zs.length) : zs.reverse.take (zs.length - (k + 1)) ++ [zs[k]] <+: zs.reverse := by
 rw [← rev_take h]
 exact List.take_prefix _ _
set_option maxHeartbeats 2000000 in
theorem back_seq (E : TypeId) (Bs n₀ : Nat) (A : Option Addr) (c : Nat) (zs : List SV) (hm : zs.length ≤ 1100000) (hBs : Bs < n₀) (w : World) (hn₀ : n₀ ≤ w.heap.size) (hc : w.cell? ⟨Bs, 0, none⟩ = some (.slice A zs.length c)) (hz : SetsAt w n₀ A zs) :
  SeqL E Tryz.prog 112 #[.pointer (some ⟨Bs, 0, none⟩)] encS n₀ zs.reverse w := by
 intro l J Jx W hW hJ hJx hY h0
 have hc' : W.cell? ⟨Bs, 0, none⟩ = some (.slice A zs.length c) := (hW.cell (p := ⟨Bs, 0, none⟩) (show Bs < w.heap.size by omega)).trans hc
 have HZ := Lib.hid (hz.below (hW.mono hn₀))
 have hnW : n₀ ≤ W.heap.size := Nat.le_trans hn₀ hW.size
 clear hc hz hW hJ hJx
 refine (callsIn_wide (n := 1)).1 ?_
 refine callsIn_of_wp Tryz.func112 rfl trivial ?_ rfl
 simp only [Tryz.ntmps112, List.size_toArray, List.length_cons, List.length_nil, Nat.reduceAdd, Nat.reduceSub, Array.replicate_succ, Array.replicate_zero, List.push_toArray, List.append_toArray, List.nil_append, List.cons_append]
 gi_wp2
 gi_loopw [3] (fun i wr => ∃ r : Nat, r ≤ zs.length ∧ i = .int .i64 ((r : Int) - 1) ∧ Hid (J (zs.reverse.take (zs.length - r)) wr) ∧ Hid (Below n₀ W wr)) (fun i _ => (intOf i + 1).toNat)
 case atStart => exact ⟨zs.length, Nat.le_refl _, rfl, Lib.hid (by rw [Nat.sub_self]; exact h0), Lib.hid (Below.refl _ _)⟩
 case round =>
  obtain ⟨r, hr, rfl, HJ, HX⟩ := hrel
  have hB2 : wr.cell? ⟨Bs, 0, none⟩ = some (.slice A zs.length c) := (HX.out.cell (p := ⟨Bs, 0, none⟩) hBs).trans hc'
  rcases Nat.eq_zero_or_pos r with rfl | hpos
  ·have t0 : decide ((0 : Int) ≤ ((0 : Nat) : Int) - 1) = false := by decide
   have HJ2 := HJ.out
   rw [Nat.sub_zero, List.take_of_length_le (by simp)] at HJ2
   gi_wp2
   go_end0
   exact ⟨⟨_, rfl⟩, .inl HJ2⟩
  ·obtain ⟨k, rfl⟩ : ∃ k, r = k + 1 := ⟨r - 1, by omega⟩
   have hlt : k < zs.length := by omega
   have e1 : ((k + 1 : Nat) : Int) - 1 = (k : Int) := by omega
   rw [e1]
   obtain ⟨hi, hz⟩ := HZ.out
   obtain ⟨b, off, rfl, hb, hcc⟩ : ∃ b off, A = some ⟨b, off, none⟩ ∧ b < n₀ ∧ ∀ k (h : k < zs.length), W.cell? ⟨b, off + k, none⟩ = some (.slice (zs[k]).A (zs[k]).ks.length (zs[k]).c) := by
    rcases hz with h | h
    ·rw [h] at hlt; simp at hlt
    ·exact h
   have y0 := (HX.out.cell (p := ⟨b, off + k, none⟩) hb).trans (hcc k hlt)
   obtain ⟨fn, tmps, assign, body, hy, hR⟩ := hY _ zs[k] wr (rev_pre hlt) HJ.out
   unfold encS at hy
   rw [hi k hlt] at hy
   have HR := Lib.hid hR
   have hsz := HX.out.size
   have HT := Lib.hid (rev_take hlt)
   have i2 : (k : Int) < (zs.length : Int) := by omega
   have i3 : (0 : Int) ≤ (k : Int) := by omega
   clear hcc hi hz hR e1 hpos
   gi_wp2
   refine (HR.out _).mono ?_
   rintro e W3 (⟨rfl, hJ3, ho3⟩ | ⟨rfl, hJx3, ho3⟩)
   ·gi_wp2
    go_roundw
    case rel => exact ⟨k, by omega, by go_num, Lib.hid (by rw [HT.out]; exact hJ3), Lib.hid (HX.out.trans (only_below ho3 (Nat.le_trans hnW hsz)))⟩
    case measure => simp [intOf]
   ·gi_wp2
    refine bodyPost_ret (results_none rfl _ _ _) rfl ?_
    exact ⟨⟨_, rfl⟩, .inr ⟨_, rev_pre hlt, hJx3⟩⟩
theorem allF_any (a : Option Addr) (len cap : Nat) (w : World) :
  Calls Tryz.prog 93 #[.slice a len cap] w fun e w' => e = .returned (.func (.func 110) #[] #[.pointer (some ⟨w.heap.size, 0, none⟩)]) ∧ w' = w.alloc (.cells #[.slice a len cap] 60) := by
 go_enter Tryz.func93, Tryz.ntmps93
 go_wp2
 go_ret
 exact ⟨rfl, rfl⟩
theorem backF_any (a : Option Addr) (len cap : Nat) (w : World) :
  Calls Tryz.prog 96 #[.slice a len cap] w fun e w' => e = .returned (.func (.func 112) #[] #[.pointer (some ⟨w.heap.size, 0, none⟩)]) ∧ w' = w.alloc (.cells #[.slice a len cap] 60) := by
 go_enter Tryz.func96, Tryz.ntmps96
 go_wp2
 go_ret
 exact ⟨rfl, rfl⟩
theorem layered_any (g : Nat) (lb : Array Value) (w : World) :
  Calls Tryz.prog 92 #[.func (.func g) #[] lb] w fun e w' => e = .returned (.func (.func 109) #[] #[.pointer (some ⟨w.heap.size, 0, none⟩)]) ∧ w' = w.alloc (.cells #[.func (.func g) #[] lb] 109) := by
 go_enter Tryz.func92, Tryz.ntmps92
 go_wp2
 go_ret
 exact ⟨rfl, rfl⟩
end Go.Proofs.YthopkhpiikiknaaGreat
namespace Go.Proofs.YthopkhpiikiknaaGreat
open Go.RowKit Go.Shelf
set_option maxRecDepth 100000
set_option linter.unusedSimpArgs false
set_option linter.unusedVariables false
attribute [local go_sem] Oper.semAt_some

theorem round_in {P : Program} {n l l' : Nat} {f : FuncId} {tmps : Array Value} {assign body : Code} {w : World} {R : Ending → World → Prop} (h : RoundIn Fence.wide n P l f tmps assign body w R) : RoundIn (Fence.wide.inRound l') n P l f tmps assign body w R := h
def keysOfS (zs : List SV) : List KeyD := zs.flatMap SV.ks
theorem keysOfS_snoc (pre : List SV) (x : SV) : keysOfS (pre ++ [x]) = keysOfS pre ++ x.ks := by simp [keysOfS]
theorem keysOfS_pre {pre zs : List SV} (h : pre <+: zs) : keysOfS pre <+: keysOfS zs := by
 obtain ⟨t, rfl⟩ := h
 exact ⟨keysOfS t, by simp [keysOfS]⟩
theorem key_pre {pre zs : List SV} {x : SV} {k : Nat} (h : pre ++ [x] <+: zs) (hk : k < x.ks.length) : (keysOfS pre ++ x.ks.take k) ++ [x.ks[k]] <+: keysOfS zs := by
 refine List.IsPrefix.trans ?_ (keysOfS_pre h)
 rw [keysOfS_snoc, List.append_assoc]
 exact (List.prefix_append_right_inj _).2 (take_pre hk)
theorem only_alloc0 (W : World) (o : Obj) (S : Nat → Prop) : Only S W (W.alloc o) := Only.of_below (bal1 W o) S
set_option maxHeartbeats 4000000 in
theorem layered_seq (E : TypeId) (hE : ∀ cur cur', Obj.cells cur 57 (0, 0) ≠ .cells cur' E (0, 0)) (Bf n₀ gf : Nat) (lb : Array Value) (zs : List SV) (w : World) (hn₀ : n₀ ≤ w.heap.size) (hBf : Bf < n₀) (hf : w.cell? ⟨Bf, 0, none⟩ = some (.func (.func gf) #[] lb)) (eg : ∀ args w, (callFunc gf args).run Tryz.prog w = .ok (.enter gf args) w)
  (hseq : SeqL E Tryz.prog gf lb encS n₀ zs w) (hr : ∀ z ∈ zs, Reads w n₀ (.slice z.A z.ks.length z.c) (keysD z.ks)) (hl : ∀ z ∈ zs, z.ks.length ≤ 1100000) :
  SeqL E Tryz.prog 109 #[.pointer (some ⟨Bf, 0, none⟩)] (fun k : KeyD => #[k.v]) n₀ (keysOfS zs) w := by
 intro l J Jx W hW hJ hJx hY h0
 have hf' : W.cell? ⟨Bf, 0, none⟩ = some (.func (.func gf) #[] lb) := (hW.cell (p := ⟨Bf, 0, none⟩) (show Bf < w.heap.size by omega)).trans hf
 have hnW : n₀ ≤ W.heap.size := Nat.le_trans hn₀ hW.size
 have HR : Hid (∀ z ∈ zs, ∀ V, Below n₀ W V → Reads V n₀ (.slice z.A z.ks.length z.c) (keysD z.ks)) := Lib.hid (fun z hz V hV => (hr z hz).keep ((hW.mono hn₀).trans hV).block)
 have HL := Lib.hid hl
 have HY := Lib.hid hY
 have HJ := Lib.hid hJ
 have HJx := Lib.hid hJx
 have HSQ := Lib.hid hseq
 have HW := Lib.hid hW
 have H0 := Lib.hid h0
 clear hf hr hl hW hY hJ hJx hseq h0
 refine (callsIn_wide (n := 3)).1 ?_
 refine callsIn_of_wp_marks Tryz.func109 rfl trivial ?_ rfl
 simp only [Tryz.ntmps109, List.size_toArray, List.length_cons, List.length_nil, Nat.reduceAdd, Nat.reduceSub, Array.replicate_succ, Array.replicate_zero, List.push_toArray, List.append_toArray, List.nil_append, List.cons_append]
 have hf2 : (W.alloc (.cells #[.func (.yield l) #[] #[]] 57)).cell? ⟨Bf, 0, none⟩ = some (.func (.func gf) #[] lb) := ((bal1 W _).cell (p := ⟨Bf, 0, none⟩) (show Bf < W.heap.size by omega)).trans hf'
 gi_wp2
 clear hf2 hf'
 have QY := al1 W (.cells #[.func (.yield l) #[] #[]] 57)
 have hBW := bal1 W (.cells #[.func (.yield l) #[] #[]] 57)
 have hsz : (W.alloc (.cells #[.func (.yield l) #[] #[]] 57)).heap.size = W.heap.size + 1 := by simp
 have H1 := Lib.hid (HJ.out.alloc (.cells #[.func (.yield l) #[] #[]] 57) H0.out)
 generalize W.alloc (.cells #[.func (.yield l) #[] #[]] 57) = W0 at *
 refine rangeL (gf := gf) (lb := lb) rfl eg HSQ.out (bstep HW.out hBW) (by omega) (fun _ => rfl)
  (fun pre V => J (keysOfS pre) V ∧ V.heap[W.heap.size]? = some (.cells #[.func (.yield l) #[] #[]] 57 (0, 0)) ∧ Below n₀ W V)
  (fun c pre V => c = .ret ∧ ∃ q, q <+: keysOfS zs ∧ Jx q V)
  (fun s A B row hs hg hr => ⟨HJ.out _ A B row hs.1 hg (fun r e => ⟨by have := (hr r e).1; omega, (hr r e).2⟩), by
   refine (hg.block _ (Array.getElem?_eq_some_iff.1 hs.2.1).1 (fun e => ?_)).trans hs.2.1
   have := (hr _ e.symm).1
   omega, ownFrom_below (β := Unit) hnW (show n₀ ≤ W0.heap.size by omega) () A B row hs.2.2 hg hr⟩)
  (fun c s A B row hs hg hr => by
   obtain ⟨h1, q, h2, h3⟩ := hs
   exact ⟨h1, q, h2, HJx.out _ A B row h3 hg (fun r e => ⟨by have := (hr r e).1; omega, (hr r e).2⟩)⟩)
  ⟨H1.out, QY, hBW.mono hnW⟩
  (fun x a' _ => a' = { tmps := #[.func (.yield l) #[] #[], .pointer (some ⟨Bf, 0, none⟩), .pointer (some ⟨W.heap.size, 0, none⟩), undef, .slice x.A x.ks.length x.c, undef, undef, .func (.func gf) #[] lb, .int .i64 (x.i : Int), .slice x.A x.ks.length x.c, undef, undef, undef, undef, undef, undef, undef, undef, undef, undef, undef], defers := [] })
  (fun x a' => fun _ _ _ _ hs _ _ => hs)
  ?assign ?body ?done ?stop
 case assign =>
  intro l' pre x V K hpx hi hK
  simp only [encS]
  gi_wp2
  exact hK _ _ (Only.refl _ _) hi rfl
 case body =>
  rintro l' pre x a' V hpx ⟨hj, hbox, hB⟩ rfl
  have hx : x ∈ zs := by
   obtain ⟨t, rfl⟩ := hpx
   simp
  have HRx := Lib.hid (HR.out x hx)
  have hlx := HL.out x hx
  have HP := Lib.hid hpx
  have HB := Lib.hid hB
  have HQ := Lib.hid hbox
  have HJ0 := Lib.hid hj
  have hzV := hB.size
  clear hpx hj hbox hB hx
  gi_wp2
  gi_loopw [12] (fun i wr => ∃ k : Nat, k ≤ x.ks.length ∧ i = .int .i64 k ∧ Hid (J (keysOfS pre ++ x.ks.take k) wr) ∧ Hid (Kept E n₀ W.heap.size V wr)) (fun i _ => x.ks.length - (intOf i).toNat)
  case atStart => exact ⟨0, Nat.zero_le _, rfl, Lib.hid (by rw [List.take_zero, List.append_nil]; exact HJ0.out), Lib.hid (Kept.refl _ _ _ _)⟩
  case round =>
   obtain ⟨k, hk, rfl, HK, HO⟩ := hrel
   have hzo := HO.out.size
   by_cases hlt : k < x.ks.length
   ·have hbw := HB.out.trans (only_below HO.out (Nat.le_trans hnW hzV))
    obtain ⟨b, off, hA, hbb, hc⟩ := (HRx.out wr hbw).keys hlt
    obtain ⟨c0, c1, c2, c3, c4⟩ := hc k hlt
    have qy := HO.out.box HQ.out (Nat.le_refl _) (hE _)
    obtain ⟨z0, z1⟩ := box1N (box_on qy (bal1 wr (.cells #[.int .i64 (x.ks[k]).a, .int .i64 (x.ks[k]).b, .int .i64 (x.ks[k]).c, .int .i64 (x.ks[k]).d, .int .i64 (x.ks[k]).e] 29)))
    obtain ⟨fn, tmps, assign, body, hy, hR⟩ := HY.out _ x.ks[k] (wr.alloc (.cells #[.int .i64 (x.ks[k]).a, .int .i64 (x.ks[k]).b, .int .i64 (x.ks[k]).c, .int .i64 (x.ks[k]).d, .int .i64 (x.ks[k]).e] 29)) (key_pre HP.out hlt) (HJ.out.alloc _ HK.out)
    unfold KeyD.v keyV at hy
    have HRo := Lib.hid hR
    have HT : Hid (keysOfS pre ++ x.ks.take (k + 1) = (keysOfS pre ++ x.ks.take k) ++ [x.ks[k]]) := Lib.hid (by rw [List.take_succ_eq_append_getElem hlt, List.append_assoc])
    have i2 : (k : Int) < (x.ks.length : Int) := by omega
    have i3 : (0 : Int) ≤ (k : Int) := by omega
    clear hc hR hbw qy
    rw [hA] at *
    gi_wp2
    refine RoundIn.mono (round_in (HRo.out _)) ?_
    rintro e W3 (⟨rfl, hJ3, ho3⟩ | ⟨rfl, hJx3, ho3⟩)
    ·have HO3 := Lib.hid ((HO.out.trans (Kept.of_below (bal1 _ _) _ _ _)).trans ho3)
     have HJ3 := Lib.hid hJ3
     clear hJ3 ho3 c0 c1 c2 c3 c4 z0 z1 hy
     gi_wp2
     go_roundw
     case rel => exact ⟨k + 1, by omega, by go_num, Lib.hid (by rw [HT.out]; exact HJ3.out), HO3⟩
     case measure => simp [intOf]; omega
    ·have HO3 := Lib.hid (((HO.out.trans (Kept.of_below (bal1 _ _) _ _ _)).mono (Nat.zero_le _) (Nat.le_refl _)).trans ho3)
     have HJ3 := Lib.hid hJx3
     clear hJx3 ho3 c0 c1 c2 c3 c4 z0 z1 hy
     gi_wp2
     exact ⟨HO3.out.mono (Nat.le_refl _) (by omega), rfl, _, key_pre HP.out hlt, HJ3.out⟩
   ·have e : k = x.ks.length := by omega
    subst e
    have hK2 := HK.out
    rw [List.take_length, ← keysOfS_snoc] at hK2
    have HK2 := Lib.hid hK2
    clear hK2
    gi_wp2
    exact ⟨HO.out.mono (Nat.le_refl _) (by omega), HK2.out, HO.out.box HQ.out (Nat.le_refl _) (hE _), HB.out.trans (only_below HO.out (Nat.le_trans hnW hzV))⟩
 case done =>
  rintro D V hD ⟨hj, _, _⟩ hK
  gi_wp2
  refine ⟨by simp, .inl ⟨_, _, rfl, run_takeDeferred hK, ?_⟩⟩
  refine ⟨_, results_none rfl _ _ _, ⟨_, rfl⟩, .inl (HJ.out.putObj _ hj (by omega) hK rfl)⟩
 case stop =>
  rintro D c pre V hD _ ⟨rfl, q, hq, hj⟩ hK
  gi_wp2
  refine ⟨by simp, .inl ⟨_, _, rfl, run_takeDeferred hK, ?_⟩⟩
  refine ⟨_, results_none rfl _ _ _, ⟨_, rfl⟩, .inr ⟨q, hq, HJx.out.putObj _ hj (by omega) hK rfl⟩⟩
end Go.Proofs.YthopkhpiikiknaaGreat
namespace Go.Proofs.YthopkhpiikiknaaGreat
open Go.RowKit Go.Shelf
set_option maxRecDepth 100000
set_option linter.unusedSimpArgs false
set_option linter.unusedVariables false
attribute [local go_sem] Oper.semAt_some

theorem list_of {α : Type} {P : Nat → α → Prop} : ∀ n, (∀ k, k < n → ∃ z, P k z) → ∃ zs : List α, zs.length = n ∧ ∀ k (h : k < zs.length), P k zs[k] := by
 intro n
 induction n with
 |zero => intro _; exact ⟨[], rfl, fun k h => by simp at h⟩
 |succ n ih =>
  intro h
  obtain ⟨zs, h1, h2⟩ := ih (fun k hk => h k (by omega))
  obtain ⟨z, hz⟩ := h n (by omega)
  refine ⟨zs ++ [z], by simp [h1], fun k hk => ?_⟩
  by_cases hlt : k < zs.length
  ·rw [List.getElem_append_left hlt]; exact h2 k hlt
  ·simp only [List.length_append, List.length_singleton] at hk
   have e : k = zs.length := by omega
   subst e
   rw [List.getElem_append_right (Nat.le_refl _)]
   simp only [Nat.sub_self, List.getElem_singleton]
   rw [h1]
   exact hz
theorem sets_sv {w : World} {A : Option Addr} {c : Nat} {ns : List (List KeyD)} (h : Reads w w.heap.size (.slice A ns.length c) (setsD ns)) :
  ∃ zs : List SV, zs.length = ns.length ∧ zs.map SV.ks = ns ∧ SetsAt w w.heap.size A zs ∧ ∀ z ∈ zs, Reads w w.heap.size (.slice z.A z.ks.length z.c) (keysD z.ks) := by
 by_cases h0 : 0 < ns.length
 ·obtain ⟨b, off, rfl, hb, hc⟩ := h.set h0
  obtain ⟨zs, hl, hz⟩ := list_of (α := SV) (P := fun k z => ∃ hk : k < ns.length, z.i = k ∧ z.ks = ns[k] ∧ w.cell? ⟨b, off + k, none⟩ = some (.slice z.A z.ks.length z.c) ∧ Reads w w.heap.size (.slice z.A z.ks.length z.c) (keysD z.ks)) ns.length (fun k hk => by
   obtain ⟨A2, c2, h1, _, _, h2⟩ := hc k hk
   exact ⟨⟨k, A2, c2, ns[k]⟩, hk, rfl, rfl, h1, h2⟩)
  refine ⟨zs, hl, ?_, ⟨fun k hk => (hz k hk).2.1, .inr ⟨b, off, rfl, hb, fun k hk => (hz k hk).2.2.2.1⟩⟩, fun z hm => ?_⟩
  ·refine List.ext_getElem (by simp [hl]) (fun k h1 h2 => ?_)
   rw [List.getElem_map]
   exact (hz k (by simpa using h1)).2.2.1
  ·obtain ⟨k, hk, rfl⟩ := List.getElem_of_mem hm
   exact (hz k hk).2.2.2.2
 ·have : ns = [] := List.length_eq_zero_iff.1 (by omega)
  subst this
  exact ⟨[], rfl, rfl, ⟨fun k hk => by simp at hk, .inl rfl⟩, fun z hz => by simp at hz⟩
theorem keysOfS_map (zs : List SV) : keysOfS zs = (zs.map SV.ks).flatten := by simp [keysOfS, List.flatMap_def]
theorem cellsN {W W' : World} {row : Option Nat} (hg : W.grownBy W' row) (hr : ∀ r, row = some r → ∃ o : Obj, W.heap[r]? = some o ∧ o.isCells = false) {b : Nat} {cur : Array Value} {e : TypeId} (h : W.heap[b]? = some (.cells cur e (0, 0))) : W'.heap[b]? = some (.cells cur e (0, 0)) := by
 refine (hg.block b (Array.getElem?_eq_some_iff.1 h).1 (fun he => ?_)).trans h
 obtain ⟨o, h1, h2⟩ := hr b he.symm
 rw [h] at h1
 cases h1
 cases h2
theorem find_pre {K pre : List KeyD} {x : KeyD} {p : KeyD → Bool} (h : pre ++ [x] <+: K) (h1 : ∀ y ∈ pre, p y = false) (h2 : p x = true) : K.find? p = some x := by
 obtain ⟨t, rfl⟩ := h
 rw [List.append_assoc, List.find?_append, List.find?_eq_none.2 (fun y hy => by simp [h1 y hy])]
 simp [List.find?_cons, h2]
theorem find_no {K : List KeyD} {p : KeyD → Bool} (h1 : ∀ y ∈ K, p y = false) : K.find? p = none := List.find?_eq_none.2 (fun y hy => by simp [h1 y hy])
theorem sumN_sv {zs : List SV} {ns : List (List KeyD)} (h : zs.map SV.ks = ns) {z : SV} (hz : z ∈ zs) : z.ks.length ≤ sumN ns := sumN_mem (by rw [← h]; exact List.mem_map_of_mem hz)
/-- The world behind a key's store into block g and a bool's into block h. -/
abbrev st6 (w : World) (g h : Nat) (u1 u2 u3 u4 u5 u6 : Value) : World := (((((w.setCell ⟨g, 0, none⟩ u1).setCell ⟨g, 1, none⟩ u2).setCell ⟨g, 2, none⟩ u3).setCell ⟨g, 3, none⟩ u4).setCell ⟨g, 4, none⟩ u5).setCell ⟨h, 0, none⟩ u6
theorem only6 {S : Nat → Prop} {w w1 : World} {g h : Nat} {u1 u2 u3 u4 u5 u6 : Value} (hO : Only S w w1) (hg : S g) (hh : S h) : Only S w (st6 w1 g h u1 u2 u3 u4 u5 u6) :=
 (((((hO.setCell hg _).setCell hg _).setCell hg _).setCell hg _).setCell hg _).setCell hh _
theorem box6 {w : World} {g h : Nat} {a b c d e f : Value} {t t2 : TypeId} (h1 : w.heap[g]? = some (.cells #[a, b, c, d, e] t (0, 0))) (h2 : w.heap[h]? = some (.cells #[f] t2 (0, 0))) (hne : g ≠ h) (u1 u2 u3 u4 u5 u6 : Value) :
  (st6 w g h u1 u2 u3 u4 u5 u6).heap[g]? = some (.cells #[u1, u2, u3, u4, u5] t (0, 0)) ∧ (st6 w g h u1 u2 u3 u4 u5 u6).heap[h]? = some (.cells #[u6] t2 (0, 0)) := by
 have far : ∀ (W : World) (j : Nat) (u : Value), (W.setCell ⟨g, j, none⟩ u).heap[h]? = W.heap[h]? := fun W j u => Below.heap_setCell _ _ _ _ (by simp; omega)
 refine ⟨(Below.heap_setCell _ _ _ _ (by simp; omega)).trans (box_set (box_set (box_set (box_set (box_set h1))))), box_set (cs := #[f]) ?_⟩
 rw [far, far, far, far, far]
 exact h2
theorem below6 {w w1 : World} {g h : Nat} {u1 u2 u3 u4 u5 u6 : Value} (hO : Below w.heap.size w w1) (hg : w.heap.size ≤ g) (hh : w.heap.size ≤ h) : Below w.heap.size w (st6 w1 g h u1 u2 u3 u4 u5 u6) := (b5' hO hg).setCell (p := ⟨h, 0, none⟩) hh _
theorem SetsAt.mono {W : World} {n₀ n₁ : Nat} {A : Option Addr} {zs : List SV} (h : SetsAt W n₀ A zs) (hn : n₀ ≤ n₁) : SetsAt W n₁ A zs := by
 obtain ⟨h1, h | ⟨b, off, h2, h3, h4⟩⟩ := h
 ·exact ⟨h1, .inl h⟩
 ·exact ⟨h1, .inr ⟨b, off, h2, by omega, h4⟩⟩
set_option maxHeartbeats 4000000 in
theorem implNodeAt_any (v : Value) (ns : List (List KeyD)) (p q : Int) (w : World) (hv : Reads w w.heap.size v (setsD ns)) (hs : SmallN ns) : Calls Tryz.prog 55 #[.agg #[v], .int .i64 p, .int .i64 q] w (SaysFind w (nodeAtK ns p q)) := by
 obtain ⟨A, c, rfl, _, _⟩ := hv.lenN
 obtain ⟨zs, hzl, hzm, hzs, hzr⟩ := sets_sv hv
 have hF : nodeAtK ns p q = pickO ((keysOfS zs.reverse).find? (fun x => spotB x.a x.b p q)) := by
  rw [nodeAtK, atRev_find, keysOfS_map, List.map_reverse, hzm]
 obtain ⟨F, hFF⟩ : ∃ F, nodeAtK ns p q = F := ⟨_, rfl⟩
 rw [hFF] at hF ⊢
 have HF1 : Hid (∀ x, (keysOfS zs.reverse).find? (fun x => spotB x.a x.b p q) = some x → F = if x.c = 0 then none else some x) := Lib.hid (fun x hx => by rw [hx] at hF; exact hF)
 have HF0 : Hid ((keysOfS zs.reverse).find? (fun x => spotB x.a x.b p q) = none → F = none) := Lib.hid (fun hx => by rw [hx] at hF; exact hF)
 have HL : Hid (∀ z ∈ zs.reverse, z.ks.length ≤ 1100000) := Lib.hid (fun z hz => Nat.le_trans (sumN_sv hzm (List.mem_reverse.1 hz)) hs.2)
 have hn : zs.length ≤ 1100000 := by rw [hzl]; exact hs.1
 have HSp := Lib.hid implSameSpot_any
 unfold keyV at HSp
 unfold SaysFind KeyD.v keyV
 rw [← hzl] at *
 have B0 := bal3 w (.cells #[.slice A zs.length c] 62) (.cells #[.int .i64 0, .int .i64 0, .int .i64 0, .int .i64 0, .int .i64 0] 29) (.cells #[.bool false] 4)
 obtain ⟨q0, q1, q2⟩ := al3 w (.cells #[.slice A zs.length c] 62) (.cells #[.int .i64 0, .int .i64 0, .int .i64 0, .int .i64 0, .int .i64 0] 29) (.cells #[.bool false] 4)
 have HZ : Hid ((((w.alloc (.cells #[.slice A zs.length c] 62)).alloc (.cells #[.int .i64 0, .int .i64 0, .int .i64 0, .int .i64 0, .int .i64 0] 29)).alloc (.cells #[.bool false] 4)).heap.size = w.heap.size + 3) := Lib.hid (by simp)
 have HB := Lib.hid B0
 have Q0 := Lib.hid q0
 have Q1 := Lib.hid q1
 have Q2 := Lib.hid q2
 have HZS := Lib.hid hzs
 have HZR := Lib.hid hzr
 clear hF hFF hzs hzr hv hs B0 q0 q1 q2 hzm
 refine (callsIn_wide (n := 3)).1 ?_
 refine callsIn_of_wp_marks Tryz.func55 rfl trivial ?_ rfl
 simp only [Tryz.ntmps55, List.size_toArray, List.length_cons, List.length_nil, Nat.reduceAdd, Nat.reduceSub, Array.replicate_succ, Array.replicate_zero, List.push_toArray, List.append_toArray, List.nil_append, List.cons_append]
 gi_wp2_with fail
 refine ⟨trivial, (callsIn_wide.2 (backF_any _ _ _ _)).mono ?_⟩
 rintro r w1 ⟨rfl, rfl⟩
 gi_wp2_with fail
 refine ⟨trivial, (callsIn_wide.2 (layered_any _ _ _)).mono ?_⟩
 rintro r w2 ⟨rfl, rfl⟩
 gi_wp2_with fail
 obtain ⟨r0, r1, r2⟩ := al3 (((w.alloc (.cells #[.slice A zs.length c] 62)).alloc (.cells #[.int .i64 0, .int .i64 0, .int .i64 0, .int .i64 0, .int .i64 0] 29)).alloc (.cells #[.bool false] 4)) (.cells #[.int .i64 p, .int .i64 q, .int .i64 0, .int .i64 0, .int .i64 0] 29) (.cells #[.slice A zs.length c] 60) (.cells #[.func (.func 112) #[] #[.pointer (some ⟨w.heap.size + 1 + 1 + 1 + 1, 0, none⟩)]] 109)
 have hb3 := bal3 (((w.alloc (.cells #[.slice A zs.length c] 62)).alloc (.cells #[.int .i64 0, .int .i64 0, .int .i64 0, .int .i64 0, .int .i64 0] 29)).alloc (.cells #[.bool false] 4)) (.cells #[.int .i64 p, .int .i64 q, .int .i64 0, .int .i64 0, .int .i64 0] 29) (.cells #[.slice A zs.length c] 60) (.cells #[.func (.func 112) #[] #[.pointer (some ⟨w.heap.size + 1 + 1 + 1 + 1, 0, none⟩)]] 109)
 have hz6 : ((((((w.alloc (.cells #[.slice A zs.length c] 62)).alloc (.cells #[.int .i64 0, .int .i64 0, .int .i64 0, .int .i64 0, .int .i64 0] 29)).alloc (.cells #[.bool false] 4)).alloc (.cells #[.int .i64 p, .int .i64 q, .int .i64 0, .int .i64 0, .int .i64 0] 29)).alloc (.cells #[.slice A zs.length c] 60)).alloc (.cells #[.func (.func 112) #[] #[.pointer (some ⟨w.heap.size + 1 + 1 + 1 + 1, 0, none⟩)]] 109)).heap.size = w.heap.size + 6 := by simp
 simp only [World.size_alloc] at r0 r1 r2
 have HB6 := Lib.hid (bstep HB.out hb3)
 have P1 := Lib.hid (box_on Q1.out hb3)
 have P2 := Lib.hid (box_on Q2.out hb3)
 clear hb3 HB Q0 Q1 Q2 HZ
 generalize (((((w.alloc (.cells #[.slice A zs.length c] 62)).alloc (.cells #[.int .i64 0, .int .i64 0, .int .i64 0, .int .i64 0, .int .i64 0] 29)).alloc (.cells #[.bool false] 4)).alloc (.cells #[.int .i64 p, .int .i64 q, .int .i64 0, .int .i64 0, .int .i64 0] 29)).alloc (.cells #[.slice A zs.length c] 60)).alloc (.cells #[.func (.func 112) #[] #[.pointer (some ⟨w.heap.size + 1 + 1 + 1 + 1, 0, none⟩)]] 109) = W0 at *
 have R0 := Lib.hid r0
 have hww := HB6.out.size
 refine rangeL (E := 29) (gf := 109) (lb := #[.pointer (some ⟨w.heap.size + 1 + 1 + 1 + 1 + 1, 0, none⟩)]) rfl (enters_of Tryz.func109 (by kernel_rfl) rfl)
  (layered_seq 29 (fun _ _ h => by cases h) (w.heap.size + 1 + 1 + 1 + 1 + 1) W0.heap.size 112 #[.pointer (some ⟨w.heap.size + 1 + 1 + 1 + 1, 0, none⟩)] zs.reverse W0 (Nat.le_refl _) (by omega) (box1N r2).1 (enters_of Tryz.func112 (by kernel_rfl) rfl)
   (back_seq 29 (w.heap.size + 1 + 1 + 1 + 1) W0.heap.size A c zs hn (by omega) W0 (Nat.le_refl _) (box1N r1).1 ((HZS.out.below HB6.out).mono hww))
   (fun z hz => (HZR.out z (List.mem_reverse.1 hz)).on HB6.out) HL.out)
  (Below.refl _ _) (Nat.le_refl _) (fun _ => rfl)
  (fun pre V => Below W0.heap.size W0 V ∧ ∀ y ∈ pre, spotB y.a y.b p q = false)
  (fun cd _ V => cd = .ret ∧ V.heap[w.heap.size + 1]? = some (.cells #[.int .i64 (F.getD zK).a, .int .i64 (F.getD zK).b, .int .i64 (F.getD zK).c, .int .i64 (F.getD zK).d, .int .i64 (F.getD zK).e] 29 (0, 0)) ∧ V.heap[w.heap.size + 1 + 1]? = some (.cells #[.bool F.isSome] 4 (0, 0)) ∧ Below w.heap.size w V)
  (OwnFrom.and (ownFrom_below (Nat.le_refl _) (Nat.le_refl _)) (ownFrom_pure _ _))
  (fun cd s X Y row hs hg hr => by
   obtain ⟨h1, h2, h3, h4⟩ := hs
   have hr' : ∀ r, row = some r → ∃ o : Obj, X.heap[r]? = some o ∧ o.isCells = false := fun r e => (hr r e).2
   exact ⟨h1, cellsN hg hr' h2, cellsN hg hr' h3, ownFrom_below (β := Unit) (Nat.le_refl _) hww () X Y row h4 hg hr⟩)
  ⟨Below.refl _ _, fun y hy => by cases hy⟩
  (fun x a' V => ∃ Bx, W0.heap.size ≤ Bx ∧ V.heap[Bx]? = some (.cells #[.int .i64 x.a, .int .i64 x.b, .int .i64 x.c, .int .i64 x.d, .int .i64 x.e] 29 (0, 0)) ∧ a' = { tmps := #[.agg #[.slice A zs.length c], .int .i64 p, .int .i64 q, .pointer (some ⟨w.heap.size, 0, none⟩), undef, undef, .pointer (some ⟨w.heap.size + 1, 0, none⟩), .pointer (some ⟨w.heap.size + 1 + 1, 0, none⟩), .pointer (some ⟨w.heap.size + 1 + 1 + 1, 0, none⟩), .pointer (some ⟨Bx, 0, none⟩), .int .i64 p, .int .i64 q, .agg #[.int .i64 p, .int .i64 q, .int .i64 0, .int .i64 0, .int .i64 0], .pointer (some ⟨w.heap.size, 0, none⟩), .slice A zs.length c, .func (.func 112) #[] #[.pointer (some ⟨w.heap.size + 1 + 1 + 1 + 1, 0, none⟩)], .func (.func 109) #[] #[.pointer (some ⟨w.heap.size + 1 + 1 + 1 + 1 + 1, 0, none⟩)], .agg #[.int .i64 x.a, .int .i64 x.b, .int .i64 x.c, .int .i64 x.d, .int .i64 x.e], undef, undef, undef, undef, undef, undef, undef, undef, undef, undef], defers := [] })
  (fun x a' _ X Y row hs hg hr => by obtain ⟨Bx, h1, h2, h3⟩ := hs; exact ⟨Bx, h1, cellsN hg (fun r e => (hr r e).2) h2, h3⟩)
  ?assign ?body ?done ?stop
 case assign =>
  rintro l pre x V K hpx ⟨hB, hpre⟩ hK
  unfold KeyD.v keyV
  gi_wp2
  exact hK _ _ (only_alloc0 _ _ _) ⟨hB.alloc hB.size _, hpre⟩ ⟨V.heap.size, hB.size, al1 _ _, rfl⟩
 case body =>
  rintro l pre x a' V hpx ⟨hB, hpre⟩ ⟨Bx, hBx, qx, rfl⟩
  have HBV := Lib.hid hB
  have HPR := Lib.hid hpre
  have HPX := Lib.hid hpx
  have hzV := hB.size
  have QX := Lib.hid qx
  obtain ⟨a0, a1, a2, a3, a4, a5⟩ := box5 qx
  obtain ⟨b0, b1, b2, b3, b4, b5⟩ := box5 (box_on R0.out hB)
  clear hB hpre hpx qx
  cases hsp : spotB x.a x.b p q
  ·have HSx := Lib.hid hsp
   clear hsp
   gi_wp2_with fail
   refine ⟨trivial, (CallsIn.inRound l (callsIn_wide.2 (HSp.out _ _ _ _ _ _ _ _ _ _ _))).mono ?_⟩
   rintro r w4 ⟨rfl, e4⟩
   rw [HSx.out]
   have E4 := Lib.hid e4
   clear e4 a0 a1 a2 a3 a4 a5 b0 b1 b2 b3 b4 b5
   gi_wp2
   exact ⟨Kept.of_below E4.out _ _ _, HBV.out.trans (E4.out.mono hzV), fun y hy => (List.mem_append.1 hy).elim (HPR.out y) (fun e => by simp at e; subst e; exact HSx.out)⟩
  ·have HSx := Lib.hid hsp
   have hFx := HF1.out x (find_pre HPX.out HPR.out hsp)
   clear hsp
   by_cases hx0 : x.c = 0
   ·have z : (x.c == 0) = true := by simp [hx0]
    rw [if_pos hx0] at hFx
    have HFx := Lib.hid hFx
    clear hFx hx0
    gi_wp2_with fail
    refine ⟨trivial, (CallsIn.inRound l (callsIn_wide.2 (HSp.out _ _ _ _ _ _ _ _ _ _ _))).mono ?_⟩
    rintro r w4 ⟨rfl, e4⟩
    rw [HSx.out]
    have E4 := Lib.hid e4
    have hz4 := e4.size
    have p1 := box_on (box_on P1.out HBV.out) e4
    have p2 := box_on (box_on P2.out HBV.out) e4
    clear a0 a1 a2 a3 a4 a5 b0 b1 b2 b3 b4 b5
    obtain ⟨a0, a1, a2, a3, a4, a5⟩ := box5 (box_on QX.out e4)
    obtain ⟨b0, b1, b2, b3, b4, b5⟩ := box5 p1
    obtain ⟨c0, c1⟩ := box1N p2
    have P1' := Lib.hid p1
    have P2' := Lib.hid p2
    clear e4 p1 p2
    gi_wp2
    obtain ⟨s1, s2⟩ := box6 P1'.out P2'.out (by omega) (.int .i64 0) (.int .i64 0) (.int .i64 0) (.int .i64 0) (.int .i64 0) (.bool false)
    refine ⟨(only6 (S := fun b => b < W0.heap.size) (Only.of_below E4.out _) (show w.heap.size + 1 < W0.heap.size by omega) (show w.heap.size + 1 + 1 < W0.heap.size by omega)).kept _ (fun b hb => ⟨Nat.zero_le _, fun h => by omega⟩), rfl, ?_, ?_, below6 (bstep (bstep HB6.out HBV.out) E4.out) (by omega) (by omega)⟩
    ·rw [HFx.out]; exact s1
    ·rw [HFx.out]; exact s2
   ·have z : (x.c == 0) = false := by simp [hx0]
    rw [if_neg hx0] at hFx
    have HFx := Lib.hid hFx
    clear hFx hx0
    gi_wp2_with fail
    refine ⟨trivial, (CallsIn.inRound l (callsIn_wide.2 (HSp.out _ _ _ _ _ _ _ _ _ _ _))).mono ?_⟩
    rintro r w4 ⟨rfl, e4⟩
    rw [HSx.out]
    have E4 := Lib.hid e4
    have hz4 := e4.size
    have p1 := box_on (box_on P1.out HBV.out) e4
    have p2 := box_on (box_on P2.out HBV.out) e4
    clear a0 a1 a2 a3 a4 a5 b0 b1 b2 b3 b4 b5
    obtain ⟨a0, a1, a2, a3, a4, a5⟩ := box5 (box_on QX.out e4)
    obtain ⟨b0, b1, b2, b3, b4, b5⟩ := box5 p1
    obtain ⟨c0, c1⟩ := box1N p2
    have P1' := Lib.hid p1
    have P2' := Lib.hid p2
    clear e4 p1 p2
    gi_wp2
    obtain ⟨s1, s2⟩ := box6 P1'.out P2'.out (by omega) (.int .i64 x.a) (.int .i64 x.b) (.int .i64 x.c) (.int .i64 x.d) (.int .i64 x.e) (.bool true)
    refine ⟨(only6 (S := fun b => b < W0.heap.size) (Only.of_below E4.out _) (show w.heap.size + 1 < W0.heap.size by omega) (show w.heap.size + 1 + 1 < W0.heap.size by omega)).kept _ (fun b hb => ⟨Nat.zero_le _, fun h => by omega⟩), rfl, ?_, ?_, below6 (bstep (bstep HB6.out HBV.out) E4.out) (by omega) (by omega)⟩
    ·rw [HFx.out]; exact s1
    ·rw [HFx.out]; exact s2
 case done =>
  rintro D V hD ⟨hB, hall⟩ hK
  have HFx := Lib.hid (HF0.out (find_no hall))
  have HBV := Lib.hid hB
  have HKD := Lib.hid hK
  have hDV : D < V.heap.size := (Array.getElem?_eq_some_iff.1 hK).1
  have p1 := box_on P1.out hB
  have p2 := box_on P2.out hB
  obtain ⟨b0, b1, b2, b3, b4, b5⟩ := box5 p1
  obtain ⟨c0, c1⟩ := box1N p2
  have P1' := Lib.hid p1
  have P2' := Lib.hid p2
  clear hB hall hK p1 p2
  gi_wp2
  obtain ⟨s1, s2⟩ := box6 P1'.out P2'.out (by omega) (.int .i64 0) (.int .i64 0) (.int .i64 0) (.int .i64 0) (.int .i64 0) (.bool false)
  have hK5 : (st6 V (w.heap.size + 1) (w.heap.size + 1 + 1) (.int .i64 0) (.int .i64 0) (.int .i64 0) (.int .i64 0) (.int .i64 0) (.bool false)).heap[D]? = some (.deferred (some [])) := box_only HKD.out (only6 (S := fun b => b < W0.heap.size) (Only.refl _ _) (show w.heap.size + 1 < W0.heap.size by omega) (show w.heap.size + 1 + 1 < W0.heap.size by omega)) (by omega)
  have hb6 := below6 (u1 := .int .i64 0) (u2 := .int .i64 0) (u3 := .int .i64 0) (u4 := .int .i64 0) (u5 := .int .i64 0) (u6 := .bool false) (bstep HB6.out HBV.out) (show w.heap.size ≤ w.heap.size + 1 by omega) (show w.heap.size ≤ w.heap.size + 1 + 1 by omega)
  refine ⟨by simp, .inl ⟨_, _, rfl, run_takeDeferred hK5, ?_⟩⟩
  have hput := fun {b cur e} => cellsN (b := b) (cur := cur) (e := e) (grownBy_putObj' _ D (.deferred none)) (fun r e => by cases e; exact ⟨_, hK5, rfl⟩)
  obtain ⟨a0, a1, a2, a3, a4, a5⟩ := box5 (hput s1)
  obtain ⟨c0, c1⟩ := box1N (hput s2)
  have hFn := HFx.out
  refine ⟨.tuple #[(F.getD zK).v, .bool F.isSome], by simp [results, Tryz.results55, go_sem, keyV, KeyD.v, hFn, zK, a0, a1, a2, a3, a4, c0], rfl, hb6.trans (belowK_b (w := w) (Nat.le_refl _) _ D _ _ (by omega) hK5 rfl rfl)⟩
 case stop =>
  rintro D cd pre V hD _ ⟨rfl, h1, h2, h3⟩ hK
  gi_wp2
  refine ⟨by simp, .inl ⟨_, _, rfl, run_takeDeferred hK, ?_⟩⟩
  have hput := fun {b cur e} => cellsN (b := b) (cur := cur) (e := e) (grownBy_putObj' V D (.deferred none)) (fun r e => by cases e; exact ⟨_, hK, rfl⟩)
  obtain ⟨a0, a1, a2, a3, a4, a5⟩ := box5 (hput h1)
  obtain ⟨c0, c1⟩ := box1N (hput h2)
  refine ⟨.tuple #[(F.getD zK).v, .bool F.isSome], by simp [results, Tryz.results55, go_sem, keyV, KeyD.v, a0, a1, a2, a3, a4, c0], rfl, h3.trans (belowK_b (w := w) (Nat.le_refl _) _ D _ _ (by omega) hK rfl rfl)⟩
end Go.Proofs.YthopkhpiikiknaaGreat
namespace Go.Proofs.YthopkhpiikiknaaGreat
open Go.RowKit Go.Shelf
set_option maxRecDepth 100000
set_option linter.unusedSimpArgs false
set_option linter.unusedVariables false
attribute [local go_sem] Oper.semAt_some

theorem RowK.keepC {w w' : World} {base : Nat} {v : Value} {l : List KeyD} (h : RowK w base v l) (hk : ∀ (b : Nat) (cur : Array Value) (e : TypeId), w.heap[b]? = some (.cells cur e (0, 0)) → w'.heap[b]? = some (.cells cur e (0, 0))) : RowK w' base v l := by
 obtain ⟨h1, h2 | ⟨g, cap, cur, e1, e2, e3, e4⟩⟩ := h
 ·exact ⟨h1, .inl h2⟩
 ·exact ⟨h1, .inr ⟨g, cap, cur, e1, e2, hk _ _ _ e3, e4⟩⟩
theorem RowK.cells {w : World} {base : Nat} {v : Value} {l : List KeyD} (h : RowK w base v l) {g : Nat} (hg : v.ownBlock = some g) : ∃ cur, w.heap[g]? = some (.cells cur 29 (0, 0)) := by
 obtain ⟨h1, ⟨rfl, _⟩ | ⟨g', cap, cur, rfl, e2, e3, e4⟩⟩ := h
 ·simp [Value.ownBlock] at hg
 ·simp [Value.ownBlock] at hg
  subst hg
  exact ⟨cur, e3⟩
theorem wpListIn_appK {F : Fence} {n : Nat} {ops : Array Oper} {rest : List Oper} {o : Oper} {a : Act} {Q : Exit → Act → World → Prop} (w : World) (hgd : o.guard = none) (s x : Operand)
  (hop : o.op = .call { callee := .builtin .append, args := #[s, x], argTypes := #[36, 36] })
  (base : Nat) (v : Value) (l : List KeyD) (hs : a.eval s = v) (hown : RowK w base v l) (b c : Nat) (m : List KeyD) (hx : a.eval x = .slice (some ⟨b, 0, none⟩) m.length c) (hA : At w (some ⟨b, 0, none⟩) (kvl m)) (hlen : l.length + m.length ≤ 1073741824) (hbase : base ≤ w.heap.size)
  (h : ∀ v' w', RowK w' base v' (l ++ m) → w.grownBy w' v.ownBlock → wpListIn F n Tryz.prog ops Q rest (a.put o.dst v') w') : wpListIn F n Tryz.prog ops Q (o :: rest) a w := by
 obtain ⟨i, hi, h0, h1, h2⟩ := info_parts key_info
 refine wpListIn_append_own w hgd s x 36 hop base 29 i _ 5 40 Tryz.underlying36 hi h0 h1 h2 rfl (by omega) v l.length (kvl l) hs hown ⟨b, 0, none⟩ m.length c (kvl m) hx (kvl_len m) ?_ (kvl_cells m) (by unfold maxLen; omega) (by omega) hbase ?_
 ·intro j u hu
  have hj := (List.getElem?_eq_some_iff.1 hu).1
  rcases hA with h | ⟨b', off, he, hc⟩
  ·rw [h] at hj; simp at hj
  ·injection he with he
   injection he with e1 e2
   subst e1 e2
   rw [Addr.add_lit, hc j hj]
   rw [List.getElem?_eq_getElem hj] at hu
   exact hu
 ·intro v' w' h2 h3 _
  refine h v' w' ?_ h3
  rw [← kvl_append, ← List.length_append] at h2
  exact h2
set_option maxHeartbeats 4000000 in
theorem appendSeq_any (gf n₀ : Nat) (lb : Array Value) (xs : List KeyD) (w : World) (hn₀ : n₀ ≤ w.heap.size) (eg : ∀ args w, (callFunc gf args).run Tryz.prog w = .ok (.enter gf args) w) (hseq : SeqL 29 Tryz.prog gf lb (fun k : KeyD => #[k.v]) n₀ xs w) (hl : xs.length ≤ 1100000) :
  Calls Tryz.prog 111 #[.slice none 0 0, .func (.func gf) #[] lb] w (NewK w xs) := by
 have HSQ := Lib.hid hseq
 have q0 := al1 w (.cells #[.slice none 0 0] 36)
 have hb := bal1 w (.cells #[.slice none 0 0] 36)
 have hz : (w.alloc (.cells #[.slice none 0 0] 36)).heap.size = w.heap.size + 1 := by simp
 clear hseq
 refine (callsIn_wide (n := 3)).1 ?_
 refine callsIn_of_wp_marks Tryz.func111 rfl trivial ?_ rfl
 simp only [Tryz.ntmps111, List.size_toArray, List.length_cons, List.length_nil, Nat.reduceAdd, Nat.reduceSub, Array.replicate_succ, Array.replicate_zero, List.push_toArray, List.append_toArray, List.nil_append, List.cons_append]
 gi_wp2
 generalize w.alloc (.cells #[.slice none 0 0] 36) = W0 at *
 refine rangeL (E := 29) (gf := gf) (lb := lb) rfl eg HSQ.out hb (by omega) (fun _ => rfl)
  (fun pre V => (∃ v, V.heap[w.heap.size]? = some (.cells #[v] 36 (0, 0)) ∧ RowK V (w.heap.size + 1) v pre) ∧ Below w.heap.size w V)
  (fun _ _ _ => False)
  (fun s X Y row hs hg hr => by
   obtain ⟨⟨v, h1, h2⟩, h3⟩ := hs
   have hr' : ∀ r, row = some r → ∃ o : Obj, X.heap[r]? = some o ∧ o.isCells = false := fun r e => (hr r e).2
   exact ⟨⟨v, cellsN hg hr' h1, h2.keepC (fun _ _ _ h => cellsN hg hr' h)⟩, ownFrom_below (β := Unit) (Nat.le_refl _) hb.size () X Y row h3 hg hr⟩)
  (fun _ _ _ _ _ hs _ _ => hs.elim)
  ⟨⟨_, q0, row_nil _ _ _ _⟩, hb⟩
  (fun x a' V => ∃ Bx, W0.heap.size ≤ Bx ∧ V.heap[Bx]? = some (.cells #[.int .i64 x.a, .int .i64 x.b, .int .i64 x.c, .int .i64 x.d, .int .i64 x.e] 29 (0, 0)) ∧ a' = { tmps := #[.slice none 0 0, .func (.func gf) #[] lb, .pointer (some ⟨w.heap.size, 0, none⟩), undef, .slice none 0 0, .pointer (some ⟨Bx, 0, none⟩), .func (.func gf) #[] lb, .agg #[.int .i64 x.a, .int .i64 x.b, .int .i64 x.c, .int .i64 x.d, .int .i64 x.e], undef, undef, undef, undef, undef], defers := [] })
  (fun x a' _ X Y row hs hg hr => by obtain ⟨Bx, h1, h2, h3⟩ := hs; exact ⟨Bx, h1, cellsN hg (fun r e => (hr r e).2) h2, h3⟩)
  ?assign ?body ?done ?stop
 case assign =>
  rintro l pre x V K hpx ⟨⟨v, h1, h2⟩, hB⟩ hK
  unfold KeyD.v keyV
  have hzV := (Array.getElem?_eq_some_iff.1 h1).1
  gi_wp2
  exact hK _ _ (only_alloc0 _ _ _) ⟨⟨v, box_on h1 (bal1 _ _), h2.on (bal1 _ _)⟩, hB.alloc hB.size _⟩ ⟨V.heap.size, by omega, al1 _ _, rfl⟩
 case body =>
  rintro l pre x a' V hpx ⟨⟨v, h1, h2⟩, hB⟩ ⟨Bx, hBx, qx, rfl⟩
  have hpl : pre.length + 1 ≤ 1100000 := by
   have h := hpx.length_le
   simp at h
   omega
  obtain ⟨A, c, rfl, _, _⟩ := h2.shape
  have Q1 := Lib.hid h1
  have R1 := Lib.hid h2
  have HBV := Lib.hid hB
  have hzV := (Array.getElem?_eq_some_iff.1 h1).1
  obtain ⟨a0, a1, a2, a3, a4, a5⟩ := box5 qx
  obtain ⟨c0, c1⟩ := box1N h1
  have ba := bal1 V (.cells #[.int .i64 x.a, .int .i64 x.b, .int .i64 x.c, .int .i64 x.d, .int .i64 x.e] 29)
  have HA := Lib.hid (At.key V x 29)
  have HRow := Lib.hid (h2.on ba)
  clear h1 h2 hB qx ba
  gi_wp2_with (gi_at_builtin; refine wpListIn_appK _ rfl (.tmp 8) (.tmp 10) rfl (w.heap.size + 1) _ pre rfl HRow.out V.heap.size 1 [x] rfl HA.out (by simp; omega) (by simp; omega) ?_; intro v1 w1 o1 g1; obtain ⟨Av, cv, rfl, _, _⟩ := o1.shape; have hk1 : w1.heap[w.heap.size]? = some (.cells #[.slice A pre.length c] 36 (0, 0)) := (g1.block _ (by simp; omega) (fun e => by have := (HRow.out.lt _ e.symm).2; omega)).trans (box_on Q1.out (bal1 V (.cells #[.int .i64 x.a, .int .i64 x.b, .int .i64 x.c, .int .i64 x.d, .int .i64 x.e] 29))); have G1 := Lib.hid g1; have O1 := Lib.hid o1; have K1 := Lib.hid hk1; clear c0 c1; obtain ⟨c0, c1⟩ := box1N hk1; clear hk1 o1 g1)
  have ht1 : Kept 29 n₀ W0.heap.size (V.alloc (.cells #[.int .i64 x.a, .int .i64 x.b, .int .i64 x.c, .int .i64 x.d, .int .i64 x.e] 29)) w1 := by
   refine Only.kept (S := fun b => (Value.slice A pre.length c).ownBlock = some b) ⟨G1.out.os, G1.out.tape, G1.out.output, G1.out.size, fun i hi hn => G1.out.block i hi (fun e => hn e.symm)⟩ _ (fun b hb => ⟨by have := (HRow.out.lt _ hb).2; omega, fun _ => HRow.out.cells hb⟩)
  have ht2 : Kept 29 n₀ W0.heap.size w1 (w1.setCell ⟨w.heap.size, 0, none⟩ (.slice Av (pre.length + 1) cv)) :=
   Only.kept (S := fun b => b = w.heap.size) (Only.setCell (S := fun b => b = w.heap.size) (g := w.heap.size) (Only.refl _ _) rfl _) _ (fun b hb => ⟨by omega, fun h => by omega⟩)
  have hlen1 : (pre ++ [x]).length = pre.length + 1 := by simp
  have o2 := O1.out
  rw [hlen1] at o2
  refine ⟨((Kept.of_below (bal1 _ _) _ _ _).trans ht1).trans ht2, ⟨_, box_set K1.out, o2.set (by omega)⟩, ?_⟩
  have hb1 : Below w.heap.size (V.alloc (.cells #[.int .i64 x.a, .int .i64 x.b, .int .i64 x.c, .int .i64 x.d, .int .i64 x.e] 29)) w1 := (Below.refl _ _).grown G1.out (by simp; omega) (fun k e => by have := (HRow.out.lt _ e).2; omega)
  exact ((HBV.out.alloc HBV.out.size _).trans hb1).setCell (p := ⟨w.heap.size, 0, none⟩) (Nat.le_refl _) _
 case done =>
  rintro D V hD ⟨⟨v, h1, h2⟩, hB⟩ hK
  obtain ⟨c0, c1⟩ := box1N h1
  obtain ⟨A, c, rfl, _, _⟩ := h2.shape
  gi_wp2
  refine ⟨by simp, .inl ⟨_, _, rfl, run_takeDeferred hK, ?_⟩⟩
  have hput := fun b cur e => cellsN (b := b) (cur := cur) (e := e) (grownBy_putObj' V D (.deferred none)) (fun r e => by cases e; exact ⟨_, hK, rfl⟩)
  exact ⟨_, results_tmp rfl _ _ _, _, rfl, (h2.keepC hput).mono (by omega), hB.trans (belowK_b (w := w) (Nat.le_refl _) _ D _ _ (by omega) hK rfl rfl)⟩
 case stop =>
  rintro D cd pre V hD _ h hK
  exact h.elim
theorem reads_nilK (w : World) : Reads w w.heap.size (.slice none 0 0) (keysD []) := Reads.nil none 0 29 5 (Nat.zero_le _)
theorem collect_any (gf n₀ : Nat) (lb : Array Value) (xs : List KeyD) (w : World) (hn₀ : n₀ ≤ w.heap.size) (eg : ∀ args w, (callFunc gf args).run Tryz.prog w = .ok (.enter gf args) w) (hseq : SeqL 29 Tryz.prog gf lb (fun k : KeyD => #[k.v]) n₀ xs w) (hl : xs.length ≤ 1100000) :
  Calls Tryz.prog 94 #[.func (.func gf) #[] lb] w (NewK w xs) := by
 go_enter Tryz.func94, Tryz.ntmps94
 go_wp2_with fail
 refine (appendSeq_any gf n₀ lb xs w hn₀ eg hseq hl).mono ?_
 rintro r w1 ⟨v1, rfl, o1, b1⟩
 have O1 := Lib.hid o1
 have B1 := Lib.hid b1
 clear o1 b1 eg hseq
 go_wp2
 go_ret
 exact ⟨_, rfl, O1.out, B1.out⟩
set_option maxHeartbeats 400000 in
theorem implNodeKeys_any (v : Value) (ns : List (List KeyD)) (w : World) (hv : Reads w w.heap.size v (setsD ns)) (h1 : ns.length ≤ 1048576) (h2 : sumN ns ≤ 1048576) : Calls Tryz.prog 53 #[.agg #[v]] w (NewK w (nodeKeysK ns)) := by
 obtain ⟨A, c, rfl, _, _⟩ := hv.lenN
 obtain ⟨zs, hzl, hzm, hzs, hzr⟩ := sets_sv hv
 have hkf : keysOfS zs = ns.flatten := by rw [keysOfS_map, hzm]
 have hfl : ns.flatten.length ≤ 1048576 := by rw [flat_sum ns]; exact h2
 rw [keys_flat]
 have HM := Lib.hid (mergeK_len [] ns.flatten)
 generalize hfn : ns.flatten = L at *
 have HKF := Lib.hid hkf
 have HL : Hid (∀ z ∈ zs, z.ks.length ≤ 1100000) := Lib.hid (fun z hz => Nat.le_trans (sumN_sv hzm hz) (by omega))
 have hn : zs.length ≤ 1100000 := by omega
 rw [← hzl] at *
 have B0 := bal3 w (.cells #[.slice A zs.length c] 62) (.cells #[.slice A zs.length c] 60) (.cells #[.func (.func 110) #[] #[.pointer (some ⟨w.heap.size + 1, 0, none⟩)]] 109)
 obtain ⟨q0, q1, q2⟩ := al3 w (.cells #[.slice A zs.length c] 62) (.cells #[.slice A zs.length c] 60) (.cells #[.func (.func 110) #[] #[.pointer (some ⟨w.heap.size + 1, 0, none⟩)]] 109)
 have hz3 : (((w.alloc (.cells #[.slice A zs.length c] 62)).alloc (.cells #[.slice A zs.length c] 60)).alloc (.cells #[.func (.func 110) #[] #[.pointer (some ⟨w.heap.size + 1, 0, none⟩)]] 109)).heap.size = w.heap.size + 3 := by simp
 have HZS := Lib.hid hzs
 have HZR := Lib.hid hzr
 have HB := Lib.hid B0
 have Q1 := Lib.hid q1
 have Q2 := Lib.hid q2
 have HZ := Lib.hid hz3
 clear hkf hzs hzr hv B0 q0 q1 q2 hzm hfn hz3 hzl
 go_enter Tryz.func53, Tryz.ntmps53
 go_wp2_with fail
 refine (allF_any _ _ _ _).mono ?_
 rintro r w1 ⟨rfl, rfl⟩
 go_wp2_with fail
 refine (layered_any _ _ _).mono ?_
 rintro r w2 ⟨rfl, rfl⟩
 go_wp2_with fail
 generalize ((w.alloc (.cells #[.slice A zs.length c] 62)).alloc (.cells #[.slice A zs.length c] 60)).alloc (.cells #[.func (.func 110) #[] #[.pointer (some ⟨w.heap.size + 1, 0, none⟩)]] 109) = W0 at *
 have hz := HZ.out
 have hww := HB.out.size
 have HC := Lib.hid (collect_any 109 W0.heap.size #[.pointer (some ⟨w.heap.size + 1 + 1, 0, none⟩)] (keysOfS zs) W0 (Nat.le_refl _) (enters_of Tryz.func109 (by kernel_rfl) rfl)
  (layered_seq 29 (fun _ _ h => by cases h) (w.heap.size + 1 + 1) W0.heap.size 110 #[.pointer (some ⟨w.heap.size + 1, 0, none⟩)] zs W0 (Nat.le_refl _) (by omega) (box1N Q2.out).1 (enters_of Tryz.func110 (by kernel_rfl) rfl)
   (all_seq 29 (w.heap.size + 1) W0.heap.size A c zs hn (by omega) W0 (Nat.le_refl _) (box1N Q1.out).1 ((HZS.out.below HB.out).mono hww))
   (fun z hz => (HZR.out z hz).on HB.out) HL.out) (by rw [HKF.out]; omega))
 rw [HKF.out] at HC
 refine HC.out.mono ?_
 clear HC hz
 rintro r w3 ⟨v3, rfl, o3, b3⟩
 have B3 := Lib.hid (bstep HB.out b3)
 have O3 := Lib.hid o3.owns
 obtain ⟨A3, c3, rfl, _, _⟩ := o3.shape
 clear o3 b3
 go_wp2_with fail
 refine (implMergeSets_any _ _ [] L _ (reads_nilK _) O3.out.reads (by rw [List.length_nil]; omega)).mono ?_
 rintro r w4 ⟨v4, rfl, o4, b4⟩
 have hml := HM.out
 simp only [List.length_nil] at hml
 generalize mergeK [] L = M at *
 have B4 := Lib.hid (bstep B3.out b4)
 have O4 := Lib.hid o4.owns
 obtain ⟨A4, c4, rfl, _, _⟩ := o4.shape
 clear o4 b4
 go_wp2_with fail
 refine (implDrop_any _ M _ O4.out.reads (by omega)).mono ?_
 rintro r w5 ⟨v5, rfl, o5, b5⟩
 have B5 := Lib.hid (bstep B4.out b5)
 have O5 := Lib.hid (o5.mono B4.out.size)
 clear o5 b5
 go_wp2
 go_ret
 exact ⟨_, rfl, O5.out, B5.out⟩
set_option maxHeartbeats 1000000 in
theorem implNodeNew_any (v : Value) (l : List KeyD) (w : World) (hv : Reads w w.heap.size v (keysD l)) (hn : l.length ≤ 1100000) : Calls Tryz.prog 78 #[v] w (NewN w (nodeNewK l)) := by
 obtain ⟨A, c, rfl, _, _⟩ := hv.shapeK
 have B0 := bal1 w (.cells #[.slice none 0 0] 62)
 have HB := Lib.hid B0
 have Q0 := Lib.hid (al1 w (.cells #[.slice none 0 0] 62))
 have HV := Lib.hid (hv.on B0)
 have HZ : Hid ((w.alloc (.cells #[.slice none 0 0] 62)).heap.size = w.heap.size + 1) := Lib.hid (by simp)
 clear hv B0
 by_cases h0 : l.length = 0
 ·rw [len0K l h0]
  have z0 : ((l.length : Int) == 0) = true := by simp [h0]
  clear h0
  go_enter Tryz.func78, Tryz.ntmps78
  go_upto_region 1 with (fail)
  generalize w.alloc (.cells #[.slice none 0 0] 62) = W at *
  obtain ⟨x0, x1⟩ := box1N Q0.out
  go_wp2
  refine bodyPost_ret (v := .agg #[.slice none 0 0]) (by simp [results, Tryz.results78, go_sem, *]) rfl ⟨_, rfl, .nil _ _ _, ?_⟩
  exact HB.out.setCell (p := ⟨w.heap.size, 0, none⟩) (Nat.le_refl _) _
 ·rw [lenpK l h0]
  have z0 : ((l.length : Int) == 0) = false := by simp; simpa using h0
  clear h0
  go_enter Tryz.func78, Tryz.ntmps78
  go_upto_region 1 with (fail)
  generalize w.alloc (.cells #[.slice none 0 0] 62) = W at *
  go_wp2_with fail
  refine (cloneK_any _ l _ HV.out (by omega)).mono ?_
  rintro r w1 ⟨v1, rfl, o1, b1⟩
  have O1 := Lib.hid (Owns.wrap o1.owns b1.size)
  have hzs := b1.size
  obtain ⟨Av, cv, rfl, _, _⟩ := o1.shape
  have B1 := Lib.hid (bstep (bstep HB.out b1) (bal1 w1 (.cells #[.slice Av l.length cv] 36)))
  obtain ⟨x0, x1⟩ := box1N (box_on Q0.out (bstep b1 (bal1 w1 (.cells #[.slice Av l.length cv] 36))))
  clear o1 b1
  go_wp2
  have hz := HZ.out
  refine bodyPost_ret (v := .agg #[.slice (some ⟨w1.heap.size, 0, none⟩) 1 1]) (by simp [results, Tryz.results78, go_sem, x0, x1]) rfl ⟨_, rfl, ?_, ?_⟩
  ·exact (O1.out.setFar (by omega)).mono (fun b hb => by omega)
  ·exact B1.out.setCell (p := ⟨w.heap.size, 0, none⟩) (Nat.le_refl _) _
set_option maxHeartbeats 1000000 in
theorem implNodePack_any (v : Value) (ns : List (List KeyD)) (w : World) (hv : Reads w w.heap.size v (setsD ns)) (h1 : ns.length ≤ 1048576) (h2 : sumN ns ≤ 1048576) : Calls Tryz.prog 67 #[.agg #[v]] w (NewN w (nodePackK ns)) := by
 obtain ⟨A, c, rfl, _, _⟩ := hv.lenN
 have B0 := bal2 w (.cells #[.slice A ns.length c] 62) (.cells #[.slice none 0 0] 62)
 obtain ⟨q0, q1⟩ := al2 w (.cells #[.slice A ns.length c] 62) (.cells #[.slice none 0 0] 62)
 have HB := Lib.hid B0
 have Q1 := Lib.hid q1
 have HV := Lib.hid (hv.on B0)
 have HZ : Hid (((w.alloc (.cells #[.slice A ns.length c] 62)).alloc (.cells #[.slice none 0 0] 62)).heap.size = w.heap.size + 2) := Lib.hid (by simp)
 have hkl := nodeKeys_len ns
 unfold nodePackK
 generalize hK : nodeKeysK ns = K at *
 have HK := Lib.hid hK
 clear hv B0 q0 q1 hK
 go_enter Tryz.func67, Tryz.ntmps67
 go_wp2_with fail
 refine (implNodeKeys_any _ ns _ HV.out h1 h2).mono ?_
 rintro r w1 ⟨v1, rfl, o1, b1⟩
 rw [HK.out] at o1
 generalize (w.alloc (.cells #[.slice A ns.length c] 62)).alloc (.cells #[.slice none 0 0] 62) = W at *
 obtain ⟨A1, c1, rfl, _, _⟩ := o1.shape
 go_wp2_with fail
 refine (implNodeNew_any _ K _ o1.owns.reads (by omega)).mono ?_
 rintro r w2 ⟨v2, rfl, o2, b2⟩
 obtain ⟨A2, c2, rfl, _, _⟩ := o2.reads.lenN
 have hz := HZ.out
 have hz1 := b1.size
 have O2 := Lib.hid (o2.mono (T := fun b => w.heap.size + 2 ≤ b) (fun b hb => by omega))
 have B2 := Lib.hid (bstep (bstep HB.out b1) b2)
 obtain ⟨x0, x1⟩ := box1N (box_on Q1.out (bstep b1 b2))
 clear o1 b1 o2 b2
 go_wp2
 generalize hN : (nodeNewK K).length = N at *
 refine bodyPost_ret (v := .agg #[.slice A2 N c2]) (by simp [results, Tryz.results67, go_sem, *]) rfl ⟨_, rfl, ?_, ?_⟩
 ·exact (O2.out.setFar (by omega)).mono (fun b hb => by omega)
 ·exact B2.out.setCell (p := ⟨w.heap.size + 1, 0, none⟩) (show w.heap.size ≤ w.heap.size + 1 by omega) _
end Go.Proofs.YthopkhpiikiknaaGreat
namespace Go.Proofs.YthopkhpiikiknaaGreat
open Go.RowKit
set_option maxRecDepth 100000
set_option linter.unusedSimpArgs false
set_option linter.unusedVariables false

def spotI (b a : Int) : Int := wrap64 (wrap64 (64 * b) + a)
theorem specSpotOf_any (b a : Int) (w : World) : Calls Tryz.prog 27 #[.int .i64 b, .int .i64 a] w fun e w' => e = .returned (.int .i64 (spotI b a)) ∧ w = w' := by
 unfold spotI
 go_enter Tryz.func27, Tryz.ntmps27
 go_wp2
 go_ret
 exact ⟨rfl, rfl⟩
theorem implSpotOf_any (b a : Int) (w : World) : Calls Tryz.prog 26 #[.int .i64 b, .int .i64 a] w fun e w' => e = .returned (.int .i64 (spotI b a)) ∧ w = w' := by
 unfold spotI
 go_enter Tryz.func26, Tryz.ntmps26
 go_wp2
 go_ret
 exact ⟨rfl, rfl⟩
end Go.Proofs.YthopkhpiikiknaaGreat
namespace Go.Proofs.YthopkhpiikiknaaGreat
open Go.RowKit Go.Shelf
set_option maxRecDepth 100000
set_option linter.unusedSimpArgs false
set_option linter.unusedVariables false
attribute [local go_sem] Oper.semAt_some

def idxL (lo : List Int) : List (Nat × Int) := lo.mapIdx (fun i a => (i, a))
theorem idxL_len (lo : List Int) : (idxL lo).length = lo.length := by simp [idxL]
theorem idxL_get (lo : List Int) (k : Nat) (h : k < (idxL lo).length) : (idxL lo)[k] = (k, lo[k]'(by rw [idxL_len] at h; exact h)) := by simp [idxL]
theorem idxL_snoc (l : List Int) (a : Int) : idxL (l ++ [a]) = idxL l ++ [(l.length, a)] := by simp [idxL, List.mapIdx_append]
def foundI : Option (Nat × Int) → Int
 |some y => (y.1 : Int)
 |none => -1
def whereK (lo : List Int) (s : Int) : Int := foundI ((idxL lo).reverse.find? (fun y => decide (y.2 ≤ s)))
theorem whereK_nil (s : Int) : whereK [] s = -1 := rfl
theorem whereK_snoc (l : List Int) (a s : Int) : whereK (l ++ [a]) s = if a ≤ s then (l.length : Int) else whereK l s := by
 unfold whereK
 rw [idxL_snoc, List.reverse_append]
 simp only [List.reverse_cons, List.reverse_nil, List.nil_append, List.singleton_append, List.find?_cons]
 by_cases h : a ≤ s <;> simp [h, foundI]
theorem whereK_take {lo : List Int} {k : Nat} (h : k < lo.length) (s : Int) : whereK (lo.take (k + 1)) s = if lo[k] ≤ s then (k : Int) else whereK (lo.take k) s := by
 rw [List.take_succ_eq_append_getElem h, whereK_snoc]
 simp only [List.length_take, Nat.min_eq_left (Nat.le_of_lt h)]
theorem whereK_le (lo : List Int) (s : Int) : -1 ≤ whereK lo s ∧ whereK lo s < (lo.length : Int) := by
 unfold whereK
 cases h : (idxL lo).reverse.find? (fun y => decide (y.2 ≤ s)) with
 |none => simp [foundI]; omega
 |some y =>
  have h1 := List.mem_of_find?_eq_some h
  rw [List.mem_reverse] at h1
  obtain ⟨k, hk, rfl⟩ := List.getElem_of_mem h1
  rw [idxL_get]
  rw [idxL_len] at hk
  simp only [foundI]
  omega
theorem find_preG {α : Type} {K pre : List α} {x : α} {p : α → Bool} (h : pre ++ [x] <+: K) (h1 : ∀ y ∈ pre, p y = false) (h2 : p x = true) : K.find? p = some x := by
 obtain ⟨t, rfl⟩ := h
 rw [List.append_assoc, List.find?_append, List.find?_eq_none.2 (fun y hy => by simp [h1 y hy])]
 simp [List.find?_cons, h2]
/-- A number as the answer, nothing old written. -/
def SaysInt (w : World) (x : Int) (e : Ending) (w' : World) : Prop := e = .returned (.int .i64 x) ∧ Below w.heap.size w w'
set_option maxHeartbeats 2000000 in
theorem specWhereIn_any (vl vn : Value) (lo : List Int) (ts : List NodeD) (p q : Int) (w : World) (hv : RdT w w.heap.size vl vn lo ts) (hn : lo.length ≤ 1100000) :
  Calls Tryz.prog 23 #[.agg #[vl, vn], .int .i64 p, .int .i64 q] w (SaysInt w (whereK lo (spotI p q))) := by
 obtain ⟨A, c, A', c', rfl, rfl⟩ := hv.shape
 have HV := Lib.hid hv.1
 have HP := Lib.hid (specSpotOf_any p q)
 generalize spotI p q = s at *
 have HB := Lib.hid (bal1 w (.cells #[.slice A lo.length c, .slice A' ts.length c'] 27))
 have Q0 := Lib.hid (al1 w (.cells #[.slice A lo.length c, .slice A' ts.length c'] 27))
 clear hv
 go_enter Tryz.func23, Tryz.ntmps23
 go_upto_region 2 with (fail)
 generalize w.alloc (.cells #[.slice A lo.length c, .slice A' ts.length c'] 27) = W at *
 go_wp2
 go_loopw [7, 8] (fun x i wr => ∃ k : Nat, k ≤ lo.length ∧ i = .int .i64 k ∧ x = .int .i64 (whereK (lo.take k) s) ∧ Hid (Below W.heap.size W wr)) (fun _ i _ => lo.length - (intOf i).toNat)
 case atStart => exact ⟨0, Nat.zero_le _, rfl, rfl, Lib.hid (Below.refl _ _)⟩
 case round =>
  obtain ⟨k, hk, rfl, rfl, HX⟩ := hrel
  obtain ⟨x0, x1, x2⟩ := box2 (box_on Q0.out HX.out)
  by_cases hlt : k < lo.length
  ·obtain ⟨b, off, rfl, hbb, hc⟩ := (HV.out.on (bstep HB.out HX.out)).int hlt
   have c1 := hc k hlt
   unfold iV at c1
   have HT := Lib.hid (whereK_take hlt s)
   have i1 : (k : Int) < (lo.length : Int) := by omega
   have i2 : (0 : Int) ≤ (k : Int) := by omega
   have HX1 := Lib.hid (bstep HX.out (Below.drew1 _))
   clear hc
   generalize whereK (lo.take k) s = y at *
   go_wp2
   go_region_held3 (fun V => V.cell? ⟨w.heap.size, 0, none⟩ = some (.slice (some ⟨b, off, none⟩) lo.length c) ∧ V.cell? ⟨b, off + k, none⟩ = some (.int .i64 lo[k]))
    (first | exact ⟨x0, c1⟩ | fail)
    (first | (go_at_call 27; refine (HP.out _).mono ?_; rintro r u ⟨rfl, rfl⟩) | fail)
   clear x0 x1 x2 c1
   change Hid (Below W.heap.size W wr.drew) at HX1
   generalize wr.drew = wd at *
   by_cases hle : lo[k] ≤ s
   ·have hT := HT.out
    rw [if_pos hle] at hT
    have HT2 := Lib.hid hT
    clear hT HT
    go_wp2
    go_roundw
    case rel => exact ⟨k + 1, by omega, by go_num, by rw [HT2.out], HX1⟩
    case measure => simp [intOf]; omega
   ·have hT := HT.out
    rw [if_neg hle] at hT
    have HT2 := Lib.hid hT
    have hgt : s < lo[k] := by omega
    clear hT HT hle
    go_wp2
    go_roundw
    case rel => exact ⟨k + 1, by omega, by go_num, by rw [HT2.out], HX1⟩
    case measure => simp [intOf]; omega
  ·go_wp2
   go_ret
   have e : k = lo.length := by omega
   subst e
   exact ⟨by rw [List.take_length]; rfl, bstep HB.out HX.out⟩
def encI (x : Nat × Int) : Array Value := #[.int .i64 (x.1 : Int), .int .i64 x.2]
/-- The cells of the ints lie below n₀. -/
def IntsAt (W : World) (n₀ : Nat) (A : Option Addr) (lo : List Int) : Prop := lo = [] ∨ ∃ b off, A = some ⟨b, off, none⟩ ∧ b < n₀ ∧ ∀ k (h : k < lo.length), W.cell? ⟨b, off + k, none⟩ = some (.int .i64 lo[k])
theorem IntsAt.below {W W' : World} {n₀ : Nat} {A : Option Addr} {lo : List Int} (h : IntsAt W n₀ A lo) (hb : Below n₀ W W') : IntsAt W' n₀ A lo := by
 rcases h with h | ⟨b, off, h2, h3, h4⟩
 ·exact .inl h
 ·exact .inr ⟨b, off, h2, h3, fun k hk => (hb.cell (p := ⟨b, off + k, none⟩) h3).trans (h4 k hk)⟩
theorem IntsAt.mono {W : World} {n₀ n₁ : Nat} {A : Option Addr} {lo : List Int} (h : IntsAt W n₀ A lo) (hn : n₀ ≤ n₁) : IntsAt W n₁ A lo := by
 rcases h with h | ⟨b, off, h2, h3, h4⟩
 ·exact .inl h
 ·exact .inr ⟨b, off, h2, by omega, h4⟩
theorem Reads.intsAt {w : World} {A : Option Addr} {c : Nat} {lo : List Int} (h : Reads w w.heap.size (.slice A lo.length c) (intsD lo)) : IntsAt w w.heap.size A lo := by
 by_cases h0 : 0 < lo.length
 ·obtain ⟨b, off, h1, h2, h3⟩ := h.int h0
  exact .inr ⟨b, off, h1, h2, h3⟩
 ·exact .inl (List.length_eq_zero_iff.1 (by omega))
set_option maxHeartbeats 2000000 in
theorem backI_seq (E : TypeId) (Bs n₀ : Nat) (A : Option Addr) (c : Nat) (lo : List Int) (hm : lo.length ≤ 1100000) (hBs : Bs < n₀) (w : World) (hn₀ : n₀ ≤ w.heap.size) (hc : w.cell? ⟨Bs, 0, none⟩ = some (.slice A lo.length c)) (hz : IntsAt w n₀ A lo) :
  SeqL E Tryz.prog 99 #[.pointer (some ⟨Bs, 0, none⟩)] encI n₀ (idxL lo).reverse w := by
 intro l J Jx W hW hJ hJx hY h0
 have hc' : W.cell? ⟨Bs, 0, none⟩ = some (.slice A lo.length c) := (hW.cell (p := ⟨Bs, 0, none⟩) (show Bs < w.heap.size by omega)).trans hc
 have HZ := Lib.hid (hz.below (hW.mono hn₀))
 have hnW : n₀ ≤ W.heap.size := Nat.le_trans hn₀ hW.size
 clear hc hz hW hJ hJx
 refine (callsIn_wide (n := 1)).1 ?_
 refine callsIn_of_wp Tryz.func99 rfl trivial ?_ rfl
 simp only [Tryz.ntmps99, List.size_toArray, List.length_cons, List.length_nil, Nat.reduceAdd, Nat.reduceSub, Array.replicate_succ, Array.replicate_zero, List.push_toArray, List.append_toArray, List.nil_append, List.cons_append]
 gi_wp2
 gi_loopw [3] (fun i wr => ∃ r : Nat, r ≤ lo.length ∧ i = .int .i64 ((r : Int) - 1) ∧ Hid (J ((idxL lo).reverse.take ((idxL lo).length - r)) wr) ∧ Hid (Below n₀ W wr)) (fun i _ => (intOf i + 1).toNat)
 case atStart => exact ⟨lo.length, Nat.le_refl _, rfl, Lib.hid (by rw [idxL_len, Nat.sub_self]; exact h0), Lib.hid (Below.refl _ _)⟩
 case round =>
  obtain ⟨r, hr, rfl, HJ, HX⟩ := hrel
  have hB2 : wr.cell? ⟨Bs, 0, none⟩ = some (.slice A lo.length c) := (HX.out.cell (p := ⟨Bs, 0, none⟩) hBs).trans hc'
  rcases Nat.eq_zero_or_pos r with rfl | hpos
  ·have t0 : decide ((0 : Int) ≤ ((0 : Nat) : Int) - 1) = false := by decide
   have HJ2 := HJ.out
   rw [Nat.sub_zero, List.take_of_length_le (by simp)] at HJ2
   gi_wp2
   go_end0
   exact ⟨⟨_, rfl⟩, .inl HJ2⟩
  ·obtain ⟨k, rfl⟩ : ∃ k, r = k + 1 := ⟨r - 1, by omega⟩
   have hlt : k < lo.length := by omega
   have hlz : k < (idxL lo).length := by rw [idxL_len]; exact hlt
   have e1 : ((k + 1 : Nat) : Int) - 1 = (k : Int) := by omega
   rw [e1]
   obtain ⟨b, off, rfl, hb, hcc⟩ : ∃ b off, A = some ⟨b, off, none⟩ ∧ b < n₀ ∧ ∀ k (h : k < lo.length), W.cell? ⟨b, off + k, none⟩ = some (.int .i64 lo[k]) := by
    rcases HZ.out with h | h
    ·rw [h] at hlt; simp at hlt
    ·exact h
   have y0 := (HX.out.cell (p := ⟨b, off + k, none⟩) hb).trans (hcc k hlt)
   obtain ⟨fn, tmps, assign, body, hy, hR⟩ := hY _ (idxL lo)[k] wr (rev_pre hlz) HJ.out
   rw [idxL_get] at hy
   unfold encI at hy
   have HR := Lib.hid hR
   have hsz := HX.out.size
   have HT := Lib.hid (rev_take hlz)
   have HPX := Lib.hid (rev_pre hlz)
   have i2 : (k : Int) < (lo.length : Int) := by omega
   have i3 : (0 : Int) ≤ (k : Int) := by omega
   clear hcc hR e1 hpos
   gi_wp2
   refine (HR.out _).mono ?_
   rintro e W3 (⟨rfl, hJ3, ho3⟩ | ⟨rfl, hJx3, ho3⟩)
   ·gi_wp2
    go_roundw
    case rel => exact ⟨k, by omega, by go_num, Lib.hid (by rw [HT.out]; exact hJ3), Lib.hid (HX.out.trans (only_below ho3 (Nat.le_trans hnW hsz)))⟩
    case measure => simp [intOf]
   ·gi_wp2
    refine bodyPost_ret (results_none rfl _ _ _) rfl ?_
    exact ⟨⟨_, rfl⟩, .inr ⟨_, HPX.out, hJx3⟩⟩
theorem backIF_any (a : Option Addr) (len cap : Nat) (w : World) :
  Calls Tryz.prog 66 #[.slice a len cap] w fun e w' => e = .returned (.func (.func 99) #[] #[.pointer (some ⟨w.heap.size, 0, none⟩)]) ∧ w' = w.alloc (.cells #[.slice a len cap] 24) := by
 go_enter Tryz.func66, Tryz.ntmps66
 go_wp2
 go_ret
 exact ⟨rfl, rfl⟩
set_option maxHeartbeats 4000000 in
theorem implWhereIn_any (vl vn : Value) (lo : List Int) (ts : List NodeD) (p q : Int) (w : World) (hv : RdT w w.heap.size vl vn lo ts) (hn : lo.length ≤ 1100000) :
  Calls Tryz.prog 22 #[.agg #[vl, vn], .int .i64 p, .int .i64 q] w (SaysInt w (whereK lo (spotI p q))) := by
 obtain ⟨A, c, A', c', rfl, rfl⟩ := hv.shape
 have HV := Lib.hid hv.1.intsAt
 have HP := Lib.hid implSpotOf_any
 have HF1 : Hid (∀ s x pre, pre ++ [x] <+: (idxL lo).reverse → (∀ y ∈ pre, decide (y.2 ≤ s) = false) → decide (x.2 ≤ s) = true → whereK lo s = (x.1 : Int)) := Lib.hid (fun s x pre h1 h2 h3 => by unfold whereK; rw [find_preG h1 h2 h3]; rfl)
 have HF0 : Hid (∀ s, (∀ y ∈ (idxL lo).reverse, decide (y.2 ≤ s) = false) → whereK lo s = -1) := Lib.hid (fun s h => by unfold whereK; rw [List.find?_eq_none.2 (fun y hy => by simp [h y hy])]; rfl)
 clear hv
 refine (callsIn_wide (n := 3)).1 ?_
 refine callsIn_of_wp_marks Tryz.func22 rfl trivial ?_ rfl
 simp only [Tryz.ntmps22, List.size_toArray, List.length_cons, List.length_nil, Nat.reduceAdd, Nat.reduceSub, Array.replicate_succ, Array.replicate_zero, List.push_toArray, List.append_toArray, List.nil_append, List.cons_append]
 gi_wp2_with fail
 refine ⟨trivial, (callsIn_wide.2 (HP.out _ _ _)).mono ?_⟩
 rintro r w1 ⟨rfl, rfl⟩
 generalize spotI p q = s at *
 gi_wp2_with fail
 refine ⟨trivial, (callsIn_wide.2 (backIF_any _ _ _ _)).mono ?_⟩
 rintro r w1 ⟨rfl, rfl⟩
 gi_wp2_with fail
 obtain ⟨q0, q1⟩ := al2 w (.cells #[.slice A lo.length c, .slice A' ts.length c'] 27) (.cells #[.int .i64 0] 3)
 have hb2 := bal2 w (.cells #[.slice A lo.length c, .slice A' ts.length c'] 27) (.cells #[.int .i64 0] 3)
 obtain ⟨r0, r1⟩ := al2 ((w.alloc (.cells #[.slice A lo.length c, .slice A' ts.length c'] 27)).alloc (.cells #[.int .i64 0] 3)) (.cells #[.int .i64 s] 3) (.cells #[.slice A lo.length c] 24)
 have hb3 := bal2 ((w.alloc (.cells #[.slice A lo.length c, .slice A' ts.length c'] 27)).alloc (.cells #[.int .i64 0] 3)) (.cells #[.int .i64 s] 3) (.cells #[.slice A lo.length c] 24)
 have hz6 : ((((w.alloc (.cells #[.slice A lo.length c, .slice A' ts.length c'] 27)).alloc (.cells #[.int .i64 0] 3)).alloc (.cells #[.int .i64 s] 3)).alloc (.cells #[.slice A lo.length c] 24)).heap.size = w.heap.size + 4 := by simp
 simp only [World.size_alloc] at r0 r1
 have HB6 := Lib.hid (bstep hb2 hb3)
 have P1 := Lib.hid (box_on q1 hb3)
 clear hb2 hb3 q0 q1
 generalize (((w.alloc (.cells #[.slice A lo.length c, .slice A' ts.length c'] 27)).alloc (.cells #[.int .i64 0] 3)).alloc (.cells #[.int .i64 s] 3)).alloc (.cells #[.slice A lo.length c] 24) = W0 at *
 have R0 := Lib.hid r0
 have hww := HB6.out.size
 refine rangeL (E := 29) (gf := 99) (lb := #[.pointer (some ⟨w.heap.size + 1 + 1 + 1, 0, none⟩)]) rfl (enters_of Tryz.func99 (by kernel_rfl) rfl)
  (backI_seq 29 (w.heap.size + 1 + 1 + 1) W0.heap.size A c lo hn (by omega) W0 (Nat.le_refl _) (box1N r1).1 ((HV.out.below HB6.out).mono hww))
  (Below.refl _ _) (Nat.le_refl _) (fun _ => rfl)
  (fun pre V => Below W0.heap.size W0 V ∧ ∀ y ∈ pre, decide (y.2 ≤ s) = false)
  (fun cd _ V => cd = .ret ∧ V.heap[w.heap.size + 1]? = some (.cells #[.int .i64 (whereK lo s)] 3 (0, 0)) ∧ Below w.heap.size w V)
  (OwnFrom.and (ownFrom_below (Nat.le_refl _) (Nat.le_refl _)) (ownFrom_pure _ _))
  (fun cd _ X Y row hs hg hr => by
   obtain ⟨h1, h2, h4⟩ := hs
   have hr' : ∀ r, row = some r → ∃ o : Obj, X.heap[r]? = some o ∧ o.isCells = false := fun r e => (hr r e).2
   exact ⟨h1, cellsN hg hr' h2, ownFrom_below (β := Unit) (Nat.le_refl _) hww () X Y row h4 hg hr⟩)
  ⟨Below.refl _ _, fun y hy => by cases hy⟩
  (fun x a' _ => a' = { tmps := #[.agg #[.slice A lo.length c, .slice A' ts.length c'], .int .i64 p, .int .i64 q, .pointer (some ⟨w.heap.size, 0, none⟩), undef, undef, .pointer (some ⟨w.heap.size + 1, 0, none⟩), .pointer (some ⟨w.heap.size + 1 + 1, 0, none⟩), .int .i64 (x.1 : Int), .int .i64 x.2, .int .i64 p, .int .i64 q, .int .i64 s, .pointer (some ⟨w.heap.size, 0, none⟩), .slice A lo.length c, .func (.func 99) #[] #[.pointer (some ⟨w.heap.size + 1 + 1 + 1, 0, none⟩)], .int .i64 (x.1 : Int), .int .i64 x.2, undef, undef, undef, undef], defers := [] })
  (fun x a' => fun _ _ _ _ hs _ _ => hs)
  ?assign ?body ?done ?stop
 case assign =>
  rintro l pre x V K hpx hi hK
  simp only [encI]
  gi_wp2
  exact hK _ _ (Only.refl _ _) hi rfl
 case body =>
  rintro l pre x a' V hpx ⟨hB, hpre⟩ rfl
  have HBV := Lib.hid hB
  have HPR := Lib.hid hpre
  have HPX := Lib.hid hpx
  have hzV := hB.size
  obtain ⟨a0, a1⟩ := box1N (box_on R0.out hB)
  have p1 := box_on P1.out hB
  obtain ⟨c0, c1⟩ := box1N p1
  have P1' := Lib.hid p1
  clear hB hpre hpx p1
  cases hsp : decide (x.2 ≤ s)
  ·have HSx := Lib.hid hsp
   gi_wp2
   exact ⟨Kept.refl _ _ _ _, HBV.out, fun y hy => (List.mem_append.1 hy).elim (HPR.out y) (fun e => by simp at e; subst e; exact HSx.out)⟩
  ·have HFx := Lib.hid (HF1.out s x pre HPX.out HPR.out hsp)
   gi_wp2
   refine ⟨((Only.refl (fun b => b < W0.heap.size) V).setCell (g := w.heap.size + 1) (j := 0) (by omega) _).kept _ (fun b hb => ⟨Nat.zero_le _, fun h => by omega⟩), rfl, ?_, (bstep HB6.out HBV.out).setCell (p := ⟨w.heap.size + 1, 0, none⟩) (show w.heap.size ≤ w.heap.size + 1 by omega) _⟩
   rw [HFx.out]
   exact box_set P1'.out
 case done =>
  rintro D V hD ⟨hB, hall⟩ hK
  have HFx := Lib.hid (HF0.out s hall)
  have HBV := Lib.hid hB
  have HKD := Lib.hid hK
  have hDV : D < V.heap.size := (Array.getElem?_eq_some_iff.1 hK).1
  have p1 := box_on P1.out hB
  obtain ⟨c0, c1⟩ := box1N p1
  have P1' := Lib.hid p1
  clear hB hall hK p1
  gi_wp2
  have hK5 : (V.setCell ⟨w.heap.size + 1, 0, none⟩ (.int .i64 (-1))).heap[D]? = some (.deferred (some [])) := box_far HKD.out (by omega)
  refine ⟨by simp, .inl ⟨_, _, rfl, run_takeDeferred hK5, ?_⟩⟩
  have hput := fun {b cur e} => cellsN (b := b) (cur := cur) (e := e) (grownBy_putObj' _ D (.deferred none)) (fun r e => by cases e; exact ⟨_, hK5, rfl⟩)
  obtain ⟨d0, d1⟩ := box1N (hput (box_set (i := 0) (u := .int .i64 (-1)) P1'.out))
  have hFn := HFx.out
  refine ⟨.int .i64 (-1), by simp [results, Tryz.results22, go_sem, d0], by rw [hFn], ((bstep HB6.out HBV.out).setCell (p := ⟨w.heap.size + 1, 0, none⟩) (show w.heap.size ≤ w.heap.size + 1 by omega) _).trans (belowK_b (w := w) (Nat.le_refl _) _ D _ _ (by omega) hK5 rfl rfl)⟩
 case stop =>
  rintro D cd pre V hD _ ⟨rfl, h1, h3⟩ hK
  gi_wp2
  refine ⟨by simp, .inl ⟨_, _, rfl, run_takeDeferred hK, ?_⟩⟩
  have hput := fun {b cur e} => cellsN (b := b) (cur := cur) (e := e) (grownBy_putObj' V D (.deferred none)) (fun r e => by cases e; exact ⟨_, hK, rfl⟩)
  obtain ⟨a0, a1⟩ := box1N (hput h1)
  refine ⟨.int .i64 (whereK lo s), by simp [results, Tryz.results22, go_sem, a0], rfl, h3.trans (belowK_b (w := w) (Nat.le_refl _) _ D _ _ (by omega) hK rfl rfl)⟩
end Go.Proofs.YthopkhpiikiknaaGreat
namespace Go.Proofs.YthopkhpiikiknaaGreat
open Go.RowKit
set_option maxRecDepth 100000
set_option linter.unusedSimpArgs false
set_option linter.unusedVariables false

theorem l1In_any (a lo hi : Int) (w : World) : Calls Tryz.prog 59 #[.int .i64 a, .int .i64 lo, .int .i64 hi] w fun e w' => e = .returned (.bool (decide (lo ≤ a) && decide (a ≤ hi))) ∧ w = w' := by
 by_cases h1 : lo ≤ a
 ·by_cases h2 : a ≤ hi
  ·rw [decide_eq_true h1, decide_eq_true h2]
   go_enter Tryz.func59, Tryz.ntmps59
   go_wp2
   go_ret
   exact ⟨rfl, rfl⟩
  ·have h3 : hi < a := by omega
   rw [decide_eq_true h1, decide_eq_false h2]
   go_enter Tryz.func59, Tryz.ntmps59
   go_wp2
   go_ret
   exact ⟨rfl, rfl⟩
 ·have h3 : a < lo := by omega
  rw [decide_eq_false h1, Bool.false_and]
  go_enter Tryz.func59, Tryz.ntmps59
  go_wp2
  go_ret
  exact ⟨rfl, rfl⟩
def treeKeysK (ts : List NodeD) : List KeyD := (ts.map nodeKeysK).flatten
theorem treeKeys_cons (n : NodeD) (ts : List NodeD) : treeKeysK (n :: ts) = nodeKeysK n ++ treeKeysK ts := rfl
theorem treeKeys_append (a b : List NodeD) : treeKeysK (a ++ b) = treeKeysK a ++ treeKeysK b := by simp [treeKeysK]
theorem treeKeys_take {ts : List NodeD} {k : Nat} (h : k < ts.length) : treeKeysK (ts.take (k + 1)) = treeKeysK (ts.take k) ++ nodeKeysK ts[k] := by
 rw [List.take_succ_eq_append_getElem h, treeKeys_append]
 simp [treeKeysK]
theorem treeKeys_len (ts : List NodeD) : (treeKeysK ts).length ≤ sumT ts := by
 induction ts with
 |nil => simp [treeKeysK, sumT]
 |cons n ts ih =>
  have := nodeKeys_len n
  rw [treeKeys_cons, List.length_append, sumT_cons]
  omega
theorem treeKeys_takelen (ts : List NodeD) (k : Nat) : (treeKeysK (ts.take k)).length ≤ sumT ts := Nat.le_trans (treeKeys_len _) (sumT_take_le ts k)
set_option maxHeartbeats 1000000 in
theorem specTreeKeys_any (vl vn : Value) (lo : List Int) (ts : List NodeD) (w : World) (hv : RdT w w.heap.size vl vn lo ts) (hn : ts.length ≤ 1048576) (hs : sumT ts ≤ 1048576) :
  Calls Tryz.prog 29 #[.agg #[vl, vn]] w (NewK w (treeKeysK ts)) := by
 obtain ⟨A, c, A', c', rfl, rfl⟩ := hv.shape
 have HV := Lib.hid hv.2
 have HB := Lib.hid (bal1 w (.cells #[.slice A lo.length c, .slice A' ts.length c'] 27))
 have Q0 := Lib.hid (al1 w (.cells #[.slice A lo.length c, .slice A' ts.length c'] 27))
 clear hv
 go_enter Tryz.func29, Tryz.ntmps29
 go_upto_region 1 with (fail)
 generalize w.alloc (.cells #[.slice A lo.length c, .slice A' ts.length c'] 27) = W at *
 go_wp2
 go_loopw [3, 4] (fun o i wr => ∃ k : Nat, k ≤ ts.length ∧ i = .int .i64 k ∧ Hid (RowK wr W.heap.size o (treeKeysK (ts.take k))) ∧ Hid (Below W.heap.size W wr)) (fun _ i _ => ts.length - (intOf i).toNat)
 case atStart => exact ⟨0, Nat.zero_le _, rfl, Lib.hid (RowK.lit W), Lib.hid (bal1 _ _)⟩
 case round =>
  obtain ⟨k, hk, rfl, HR, HX⟩ := hrel
  obtain ⟨x0, x1, x2⟩ := box2 (box_on Q0.out HX.out)
  obtain ⟨Ao, co, rfl, _, _⟩ := HR.out.shape
  by_cases hlt : k < ts.length
  ·obtain ⟨b, off, rfl, hbb, hc⟩ := (HV.out.on (bstep HB.out HX.out)).node hlt
   obtain ⟨A1, d1, c1, _, _, r1⟩ := hc k hlt
   have R1 := Lib.hid r1
   have HT := Lib.hid (treeKeys_take hlt)
   have HL := Lib.hid (treeKeys_takelen ts k)
   have hl := sumT_mem (List.getElem_mem hlt)
   have hlk := nodeKeys_len ts[k]
   have i1 : (k : Int) < (ts.length : Int) := by omega
   have i2 : (0 : Int) ≤ (k : Int) := by omega
   clear hc r1
   go_wp2_with fail
   refine (specNodeKeys_any _ ts[k] _ R1.out (by omega) (by omega)).mono ?_
   rintro e w2 ⟨v2, rfl, o2, b2⟩
   obtain ⟨A2, c2, rfl, _, _⟩ := o2.shape
   have HRow := Lib.hid (HR.out.on b2)
   have HAt := Lib.hid (o2.owns.reads.atK)
   have B2 := Lib.hid (bstep HX.out b2)
   have HZ := Lib.hid B2.out.size
   clear o2 b2 x0 x1 x2 c1
   go_wp2_with (at_builtin; refine wpList_appK _ rfl (.tmp 13) (.tmp 19) rfl W.heap.size _ (treeKeysK (ts.take k)) rfl HRow.out A2 (nodeKeysK ts[k]).length c2 (nodeKeysK ts[k]) rfl rfl HAt.out (by have := HL.out; omega) HZ.out ?_; intro v1 w1 o1 b1; clear HRow HAt)
   have HO := Lib.hid o1
   have B3 := Lib.hid (B2.out.trans b1)
   clear o1 b1
   go_roundw
   case rel => exact ⟨k + 1, by omega, by go_num, Lib.hid (by rw [HT.out]; exact HO.out), B3⟩
   case measure => simp [intOf]; omega
  ·have e : k = ts.length := by omega
   subst e
   have h := HR.out
   rw [List.take_length] at h
   have HF := Lib.hid h
   clear h
   go_wp2
   go_ret
   refine ⟨_, rfl, ?_, bstep HB.out HX.out⟩
   have h := HF.out.mono (base' := w.heap.size) HB.out.size
   rw [List.take_length]
   exact h
set_option maxHeartbeats 1000000 in
theorem implTreeKeys_any (vl vn : Value) (lo : List Int) (ts : List NodeD) (w : World) (hv : RdT w w.heap.size vl vn lo ts) (hn : ts.length ≤ 1048576) (hs : sumT ts ≤ 1048576) :
  Calls Tryz.prog 11 #[.agg #[vl, vn]] w (NewK w (treeKeysK ts)) := by
 obtain ⟨A, c, A', c', rfl, rfl⟩ := hv.shape
 have HV := Lib.hid hv.2
 have HB := Lib.hid (bal1 w (.cells #[.slice A lo.length c, .slice A' ts.length c'] 27))
 have Q0 := Lib.hid (al1 w (.cells #[.slice A lo.length c, .slice A' ts.length c'] 27))
 clear hv
 go_enter Tryz.func11, Tryz.ntmps11
 go_upto_region 1 with (fail)
 generalize w.alloc (.cells #[.slice A lo.length c, .slice A' ts.length c'] 27) = W at *
 obtain ⟨x0, x1, x2⟩ := box2 (box_on Q0.out (bal1 W (.cells #[] 29)))
 go_wp2
 clear x0 x1 x2
 go_loopw [3, 10] (fun o i wr => ∃ k : Nat, k ≤ ts.length ∧ i = .int .i64 k ∧ Hid (RowK wr W.heap.size o (treeKeysK (ts.take k))) ∧ Hid (Below W.heap.size W wr)) (fun _ i _ => ts.length - (intOf i).toNat)
 case atStart => exact ⟨0, Nat.zero_le _, rfl, Lib.hid (RowK.lit W), Lib.hid (bal1 _ _)⟩
 case round =>
  obtain ⟨k, hk, rfl, HR, HX⟩ := hrel
  obtain ⟨Ao, co, rfl, _, _⟩ := HR.out.shape
  by_cases hlt : k < ts.length
  ·obtain ⟨b, off, rfl, hbb, hc⟩ := (HV.out.on (bstep HB.out HX.out)).node hlt
   obtain ⟨A1, d1, c1, _, _, r1⟩ := hc k hlt
   have ba := bal1 wr (.cells #[.slice A1 (ts[k]).length d1] 62)
   have R1 := Lib.hid (r1.on ba)
   have HT := Lib.hid (treeKeys_take hlt)
   have HL := Lib.hid (treeKeys_takelen ts k)
   have hl := sumT_mem (List.getElem_mem hlt)
   have hlk := nodeKeys_len ts[k]
   have i1 : (k : Int) < (ts.length : Int) := by omega
   have i2 : (0 : Int) ≤ (k : Int) := by omega
   replace HX := Lib.hid (bstep HX.out ba)
   replace HR := Lib.hid (HR.out.on ba)
   clear hc r1 ba
   go_wp2_with fail
   refine (implNodeKeys_any _ ts[k] _ R1.out (by omega) (by omega)).mono ?_
   rintro e w2 ⟨v2, rfl, o2, b2⟩
   obtain ⟨A2, c2, rfl, _, _⟩ := o2.shape
   have HRow := Lib.hid (HR.out.on b2)
   have HAt := Lib.hid (o2.owns.reads.atK)
   have B2 := Lib.hid (bstep HX.out b2)
   have HZ := Lib.hid B2.out.size
   clear o2 b2 c1
   go_wp2_with (at_builtin; refine wpList_appK _ rfl (.tmp 14) (.tmp 16) rfl W.heap.size _ (treeKeysK (ts.take k)) rfl HRow.out A2 (nodeKeysK ts[k]).length c2 (nodeKeysK ts[k]) rfl rfl HAt.out (by have := HL.out; omega) HZ.out ?_; intro v1 w1 o1 b1; clear HRow HAt)
   have HO := Lib.hid o1
   have B3 := Lib.hid (B2.out.trans b1)
   clear o1 b1
   go_roundw
   case rel => exact ⟨k + 1, by omega, by go_num, Lib.hid (by rw [HT.out]; exact HO.out), B3⟩
   case measure => simp [intOf]; omega
  ·have e : k = ts.length := by omega
   subst e
   have h := HR.out
   rw [List.take_length] at h
   have HF := Lib.hid h
   clear h
   go_wp2
   go_ret
   refine ⟨_, rfl, ?_, bstep HB.out HX.out⟩
   have h := HF.out.mono (base' := w.heap.size) HB.out.size
   rw [List.take_length]
   exact h
def treeAtK (lo : List Int) (ts : List NodeD) (p q : Int) : Option KeyD :=
 if h : 0 ≤ whereK lo (spotI p q) ∧ (whereK lo (spotI p q)).toNat < ts.length then nodeAtK (ts[(whereK lo (spotI p q)).toNat]'h.2) p q else none
set_option maxHeartbeats 2000000 in
theorem specTreeAt_any (vl vn : Value) (lo : List Int) (ts : List NodeD) (p q : Int) (w : World) (hv : RdT w w.heap.size vl vn lo ts) (hs : SmallT lo ts) :
  Calls Tryz.prog 17 #[.agg #[vl, vn], .int .i64 p, .int .i64 q] w (SaysFind w (treeAtK lo ts p q)) := by
 obtain ⟨A, c, A', c', rfl, rfl⟩ := hv.shape
 obtain ⟨q0, q1⟩ := al2 w (.cells #[.slice A lo.length c, .slice A' ts.length c'] 27) (.cells #[.int .i64 0, .int .i64 0, .int .i64 0, .int .i64 0, .int .i64 0] 29)
 have hb := bal2 w (.cells #[.slice A lo.length c, .slice A' ts.length c'] 27) (.cells #[.int .i64 0, .int .i64 0, .int .i64 0, .int .i64 0, .int .i64 0] 29)
 have HV := Lib.hid (hv.on hb)
 have HB := Lib.hid hb
 have Q0 := Lib.hid q0
 have Q1 := Lib.hid q1
 have HW := Lib.hid specWhereIn_any
 have HN := Lib.hid specNodeAt_any
 unfold SaysFind KeyD.v keyV at HN
 unfold SaysFind KeyD.v keyV
 have HT : Hid (∀ i, whereK lo (spotI p q) = i → treeAtK lo ts p q = if h : 0 ≤ i ∧ i.toNat < ts.length then nodeAtK (ts[i.toNat]'h.2) p q else none) := Lib.hid (fun i h => by subst h; rfl)
 generalize treeAtK lo ts p q = F at *
 have hn1 := hs.1
 have hn2 := hs.2.1
 have HS := Lib.hid hs
 have hwl := whereK_le lo (spotI p q)
 obtain ⟨i, hi⟩ : ∃ i, whereK lo (spotI p q) = i := ⟨_, rfl⟩
 rw [hi] at hwl
 have HT2 := Lib.hid (HT.out i hi)
 have HI := Lib.hid hi
 clear hv hb q0 q1 hs HT hi
 go_enter Tryz.func17, Tryz.ntmps17
 go_upto_region 1 with (fail)
 generalize (w.alloc (.cells #[.slice A lo.length c, .slice A' ts.length c'] 27)).alloc (.cells #[.int .i64 0, .int .i64 0, .int .i64 0, .int .i64 0, .int .i64 0] 29) = W at *
 obtain ⟨x0, x1, x2⟩ := box2 Q0.out
 go_wp2_with fail
 refine (HW.out _ _ lo ts p q _ HV.out (by omega)).mono ?_
 rintro e w1 ⟨rfl, b1⟩
 rw [HI.out]
 replace HV := Lib.hid (HV.out.on b1)
 replace Q0 := Lib.hid (box_on Q0.out b1)
 replace Q1 := Lib.hid (box_on Q1.out b1)
 replace HB := Lib.hid (bstep HB.out b1)
 clear x0 x1 x2 b1
 obtain ⟨x0, x1, x2⟩ := box2 Q0.out
 obtain ⟨y0, y1, y2, y3, y4, y5⟩ := box5 Q1.out
 go_wp2_with fail
 refine (l1In_any i 0 ((ts.length : Int) - 1) _).mono ?_
 rintro e w2 ⟨rfl, rfl⟩
 by_cases hin : 0 ≤ i ∧ i.toNat < ts.length
 ·obtain ⟨k, rfl⟩ := Int.eq_ofNat_of_zero_le hin.1
  have hlt : k < ts.length := by have := hin.2; omega
  have d1 : (decide ((0 : Int) ≤ (k : Int)) && decide ((k : Int) ≤ (ts.length : Int) - 1)) = true := by simp; omega
  rw [d1]
  have hF := HT2.out
  rw [dif_pos hin] at hF
  obtain ⟨b, off, rfl, hbb, hc⟩ := HV.out.2.node hlt
  obtain ⟨A1, e1, c1, _, _, r1⟩ := hc k hlt
  have R1 := Lib.hid r1
  have HSk := Lib.hid (HS.out.at hlt)
  have HF : Hid (F = nodeAtK ts[k] p q) := Lib.hid hF
  have i1 : (k : Int) < (ts.length : Int) := by omega
  have i2 : (0 : Int) ≤ (k : Int) := by omega
  clear hc r1 hF d1 HT2 hin hwl
  go_wp2_with fail
  refine (HN.out _ ts[k] p q _ R1.out HSk.out).mono ?_
  rintro e w3 ⟨rfl, b3⟩
  rw [← HF.out]
  replace HB := Lib.hid (bstep HB.out b3)
  replace Q1 := Lib.hid (box_on Q1.out b3)
  clear x0 x1 x2 y0 y1 y2 y3 y4 y5 b3 c1
  obtain ⟨y0, y1, y2, y3, y4, y5⟩ := box5 Q1.out
  go_wp2
  refine bodyPost_ret (v := .tuple #[(F.getD zK).v, .bool F.isSome]) (by simp [results, Tryz.results17, go_sem, keyV, KeyD.v, *]) rfl ⟨rfl, ?_⟩
  exact b5' HB.out (by omega)
 ·have d1 : (decide ((0 : Int) ≤ i) && decide (i ≤ (ts.length : Int) - 1)) = false := by
   rcases Int.lt_or_le i 0 with h | h
   ·rw [decide_eq_false (by omega)]; rfl
   ·rw [decide_eq_false (show ¬ i ≤ (ts.length : Int) - 1 by omega), Bool.and_false]
  rw [d1]
  have hF := HT2.out
  rw [dif_neg hin] at hF
  clear d1 hin HT2
  go_wp2
  refine bodyPost_ret (v := .tuple #[(F.getD zK).v, .bool F.isSome]) (by simp [results, Tryz.results17, go_sem, keyV, KeyD.v, hF, zK, *]) rfl ⟨rfl, ?_⟩
  exact b5' HB.out (by omega)
theorem hasNode_any (vl vn : Value) (lo : List Int) (ts : List NodeD) (i : Int) (w : World) (hv : RdT w w.heap.size vl vn lo ts) (hn : ts.length ≤ 1100000) :
  Calls Tryz.prog 54 #[.agg #[vl, vn], .int .i64 i] w (SaysBool w (decide (0 ≤ i) && decide (i < (ts.length : Int)))) := by
 obtain ⟨A, c, A', c', rfl, rfl⟩ := hv.shape
 have HB := Lib.hid (bal1 w (.cells #[.slice A lo.length c, .slice A' ts.length c'] 27))
 clear hv
 by_cases h1 : 0 ≤ i
 ·by_cases h2 : i < (ts.length : Int)
  ·rw [decide_eq_true h1, decide_eq_true h2]
   go_enter Tryz.func54, Tryz.ntmps54
   go_wp2
   go_ret
   exact ⟨rfl, HB.out⟩
  ·have h3 : (ts.length : Int) ≤ i := by omega
   rw [decide_eq_true h1, decide_eq_false h2]
   go_enter Tryz.func54, Tryz.ntmps54
   go_wp2
   go_ret
   exact ⟨rfl, HB.out⟩
 ·have h3 : i < 0 := by omega
  rw [decide_eq_false h1, Bool.false_and]
  go_enter Tryz.func54, Tryz.ntmps54
  go_wp2
  go_ret
  exact ⟨rfl, HB.out⟩
set_option maxHeartbeats 2000000 in
theorem implTreeAt_any (vl vn : Value) (lo : List Int) (ts : List NodeD) (p q : Int) (w : World) (hv : RdT w w.heap.size vl vn lo ts) (hs : SmallT lo ts) :
  Calls Tryz.prog 12 #[.agg #[vl, vn], .int .i64 p, .int .i64 q] w (SaysFind w (treeAtK lo ts p q)) := by
 obtain ⟨A, c, A', c', rfl, rfl⟩ := hv.shape
 obtain ⟨q0, q1⟩ := al2 w (.cells #[.slice A lo.length c, .slice A' ts.length c'] 27) (.cells #[.int .i64 0, .int .i64 0, .int .i64 0, .int .i64 0, .int .i64 0] 29)
 have hb := bal2 w (.cells #[.slice A lo.length c, .slice A' ts.length c'] 27) (.cells #[.int .i64 0, .int .i64 0, .int .i64 0, .int .i64 0, .int .i64 0] 29)
 have HV := Lib.hid (hv.on hb)
 have HB := Lib.hid hb
 have Q0 := Lib.hid q0
 have Q1 := Lib.hid q1
 have HW := Lib.hid implWhereIn_any
 have HN := Lib.hid implNodeAt_any
 unfold SaysFind KeyD.v keyV at HN
 unfold SaysFind KeyD.v keyV
 have HT : Hid (∀ i, whereK lo (spotI p q) = i → treeAtK lo ts p q = if h : 0 ≤ i ∧ i.toNat < ts.length then nodeAtK (ts[i.toNat]'h.2) p q else none) := Lib.hid (fun i h => by subst h; rfl)
 generalize treeAtK lo ts p q = F at *
 have hn1 := hs.1
 have hn2 := hs.2.1
 have HS := Lib.hid hs
 have hwl := whereK_le lo (spotI p q)
 obtain ⟨i, hi⟩ : ∃ i, whereK lo (spotI p q) = i := ⟨_, rfl⟩
 rw [hi] at hwl
 have HT2 := Lib.hid (HT.out i hi)
 have HI := Lib.hid hi
 clear hv hb q0 q1 hs HT hi
 go_enter Tryz.func12, Tryz.ntmps12
 go_upto_region 1 with (fail)
 generalize (w.alloc (.cells #[.slice A lo.length c, .slice A' ts.length c'] 27)).alloc (.cells #[.int .i64 0, .int .i64 0, .int .i64 0, .int .i64 0, .int .i64 0] 29) = W at *
 obtain ⟨x0, x1, x2⟩ := box2 Q0.out
 go_wp2_with fail
 refine (HW.out _ _ lo ts p q _ HV.out (by omega)).mono ?_
 rintro e w1 ⟨rfl, b1⟩
 rw [HI.out]
 replace HV := Lib.hid (HV.out.on b1)
 replace Q0 := Lib.hid (box_on Q0.out b1)
 replace Q1 := Lib.hid (box_on Q1.out b1)
 replace HB := Lib.hid (bstep HB.out b1)
 clear x0 x1 x2 b1
 obtain ⟨x0, x1, x2⟩ := box2 Q0.out
 go_wp2_with fail
 refine (hasNode_any _ _ lo ts i _ HV.out (by omega)).mono ?_
 rintro e w2 ⟨rfl, b1⟩
 replace HV := Lib.hid (HV.out.on b1)
 replace Q0 := Lib.hid (box_on Q0.out b1)
 replace Q1 := Lib.hid (box_on Q1.out b1)
 replace HB := Lib.hid (bstep HB.out b1)
 clear x0 x1 x2 b1
 obtain ⟨x0, x1, x2⟩ := box2 Q0.out
 obtain ⟨y0, y1, y2, y3, y4, y5⟩ := box5 Q1.out
 by_cases hin : 0 ≤ i ∧ i.toNat < ts.length
 ·obtain ⟨k, rfl⟩ := Int.eq_ofNat_of_zero_le hin.1
  have hlt : k < ts.length := by have := hin.2; omega
  have d1 : (decide ((0 : Int) ≤ (k : Int)) && decide ((k : Int) < (ts.length : Int))) = true := by simp; omega
  rw [d1]
  have hF := HT2.out
  rw [dif_pos hin] at hF
  obtain ⟨b, off, rfl, hbb, hc⟩ := HV.out.2.node hlt
  obtain ⟨A1, e1, c1, _, _, r1⟩ := hc k hlt
  have R1 := Lib.hid r1
  have HSk := Lib.hid (HS.out.at hlt)
  have HF : Hid (F = nodeAtK ts[k] p q) := Lib.hid hF
  have i1 : (k : Int) < (ts.length : Int) := by omega
  have i2 : (0 : Int) ≤ (k : Int) := by omega
  clear hc r1 hF d1 HT2 hin hwl
  go_wp2_with fail
  refine (HN.out _ ts[k] p q _ R1.out HSk.out).mono ?_
  rintro e w3 ⟨rfl, b3⟩
  rw [← HF.out]
  replace HB := Lib.hid (bstep HB.out b3)
  replace Q1 := Lib.hid (box_on Q1.out b3)
  clear x0 x1 x2 y0 y1 y2 y3 y4 y5 b3 c1
  obtain ⟨y0, y1, y2, y3, y4, y5⟩ := box5 Q1.out
  go_wp2
  refine bodyPost_ret (v := .tuple #[(F.getD zK).v, .bool F.isSome]) (by simp [results, Tryz.results12, go_sem, keyV, KeyD.v, *]) rfl ⟨rfl, ?_⟩
  exact b5' HB.out (by omega)
 ·have d1 : (decide ((0 : Int) ≤ i) && decide (i < (ts.length : Int))) = false := by
   rcases Int.lt_or_le i 0 with h | h
   ·rw [decide_eq_false (by omega)]; rfl
   ·rw [decide_eq_false (show ¬ i < (ts.length : Int) by omega), Bool.and_false]
  rw [d1]
  have hF := HT2.out
  rw [dif_neg hin] at hF
  clear d1 hin HT2
  go_wp2
  refine bodyPost_ret (v := .tuple #[(F.getD zK).v, .bool F.isSome]) (by simp [results, Tryz.results12, go_sem, keyV, KeyD.v, hF, zK, *]) rfl ⟨rfl, ?_⟩
  exact b5' HB.out (by omega)
end Go.Proofs.YthopkhpiikiknaaGreat
namespace Go.Proofs.YthopkhpiikiknaaGreat
open Go.RowKit
set_option maxRecDepth 100000
set_option linter.unusedSimpArgs false
set_option linter.unusedVariables false

/-- u is a row of sets in blocks from base on, none of them bo. -/
def NOwn (w : World) (base bo : Nat) (u : Value) (ns : List (List KeyD)) : Prop :=
 ∃ xs, w.ownsRow base 36 1 u ns.length xs ∧ OwnsL w (fun b => (base ≤ b ∧ b ≠ bo) ∧ u.ownBlock ≠ some b) xs (ns.map keysD) ∧ u.ownBlock ≠ some bo
theorem NOwn.of {w : World} {base : Nat} {u : Value} {ns : List (List KeyD)} (h : Owns w (fun b => base ≤ b) u (setsD ns)) (o : Obj) : NOwn (w.alloc o) base w.heap.size u ns := by
 rcases h.rw' with ⟨rfl, h0, hc⟩ | ⟨g, cap, xs, rfl, hS, hR, hn, hc, hl, hx, ho⟩
 ·have : ns = [] := List.length_eq_zero_iff.1 h0
  subst this
  exact ⟨[], row_nil _ _ _ _, OwnsL.nil _ _, by simp [Value.ownBlock]⟩
 ·have hlt := hR.lt
  refine ⟨xs, row_on (hR.row hS hn hc (by simpa using hx)) (bal1 _ _), ?_, by simp [Value.ownBlock]; omega⟩
  exact (ho.lt.on (bal1 w o)).mono (fun b hb => ⟨⟨hb.1.1, by omega⟩, fun e => hb.1.2 (by simp [Value.ownBlock] at e; exact e.symm)⟩)
theorem NOwn.on {w w' : World} {base bo : Nat} {u : Value} {ns : List (List KeyD)} (h : NOwn w base bo u ns) (hb : Below w.heap.size w w') : NOwn w' base bo u ns := by
 obtain ⟨xs, h1, h2, h3⟩ := h
 exact ⟨xs, row_on h1 hb, h2.on hb, h3⟩
theorem rowP_owns {P : Nat → Prop} {w : World} {base e z n : Nat} {v : Value} {xs : List Value} {cs : List Dat} (h : w.ownsRow base e z v n xs) (ho : OwnsL w (fun b => P b ∧ v.ownBlock ≠ some b) xs cs) (hP : ∀ g, v.ownBlock = some g → P g) (hl : cs.length = n * z) : Owns w P v (.row e z n cs) := by
 rcases row_cases h with ⟨rfl, rfl, rfl⟩ | ⟨g, cap, rfl, hb, hR, hn, hc, _⟩
 ·have : cs = [] := List.length_eq_zero_iff.1 (by simpa using hl)
  subst this
  exact .nil _ _ _
 ·exact hR.owns (hP g rfl) (ho.mono (fun b hb => ⟨hb.1, fun e => hb.2 (by rw [e]; rfl)⟩)) hn hc hl
theorem NOwn.owns {w : World} {base bo : Nat} {u : Value} {ns : List (List KeyD)} (h : NOwn w base bo u ns) : Owns w (fun b => base ≤ b ∧ b ≠ bo) u (setsD ns) := by
 obtain ⟨xs, h1, h2, h3⟩ := h
 exact rowP_owns h1 h2 (fun g hg => ⟨(row_lt h1 g hg).2, fun e => h3 (by rw [← e]; exact hg)⟩) (by simp)
theorem NOwn.form {w : World} {base bo : Nat} {u : Value} {ns : List (List KeyD)} (h : NOwn w base bo u ns) : ∃ A c, u = .slice A ns.length c := by
 obtain ⟨xs, h1, _, _⟩ := h
 exact row_form h1
theorem NOwn.elem {w : World} {base bo : Nat} {u : Value} {ns : List (List KeyD)} (h : NOwn w base bo u ns) {i : Nat} (hi : i < ns.length) :
  ∃ g cap A2 c2, u = .slice (some ⟨g, 0, none⟩) ns.length cap ∧ base ≤ g ∧ g ≠ bo ∧ g < w.heap.size ∧ w.cell? ⟨g, i, none⟩ = some (.slice A2 (ns[i]).length c2) ∧ (∀ o, w.frozen? ⟨g, o, none⟩ = false) ∧ Reads w w.heap.size (.slice A2 (ns[i]).length c2) (keysD ns[i]) := by
 obtain ⟨xs, h1, h2, h3⟩ := h
 rcases row_cases h1 with ⟨_, h0, _⟩ | ⟨g, cap, rfl, hb, hR, hn, hc, hx⟩
 ·omega
 ·have hxi : i < xs.length := by omega
  have hr := h2.reads.2 i hxi (by simpa using hi)
  rw [List.getElem_map] at hr
  have hcell := hR.cell hxi
  obtain ⟨A2, c2, e, _, _⟩ := hr.shapeK
  rw [e] at hr hcell
  exact ⟨g, cap, A2, c2, rfl, hb, fun e => h3 (by rw [← e]; rfl), hR.lt, hcell, fun o => hR.frozen o, hr⟩
theorem OwnsL.setN {w : World} {S T : Nat → Prop} {vs : List Value} {cs : List Dat} {i : Nat} {u : Value} {c : Dat} (h : OwnsL w S vs cs) (hu : Owns w T u c) (hd : ∀ b, S b → ¬ T b) : OwnsL w (fun b => S b ∨ T b) (vs.set i u) (cs.set i c) := by
 obtain ⟨hl, F, ho, hF, hj⟩ := h
 refine ⟨by simp [hl], fun j b => (j = i ∧ T b) ∨ (j ≠ i ∧ F j b), fun j a b => ?_, fun j b hb => ?_, fun j k b hjk hb hb' => ?_⟩
 ·simp only [List.length_set] at a b
  by_cases hij : i = j
  ·subst hij; rw [List.getElem_set_self, List.getElem_set_self]; exact hu.mono (fun b hb => .inl ⟨rfl, hb⟩)
  ·rw [List.getElem_set_ne hij, List.getElem_set_ne hij]; exact (ho j a b).mono (fun b hb => .inr ⟨Ne.symm hij, hb⟩)
 ·rcases hb with ⟨_, hb⟩ | ⟨_, hb⟩
  ·exact .inr hb
  ·exact .inl (hF j b hb)
 ·rcases hb with ⟨h1, hb⟩ | ⟨h1, hb⟩ <;> rcases hb' with ⟨h2, hb'⟩ | ⟨h2, hb'⟩
  ·omega
  ·exact hd b (hF k b hb') hb
  ·exact hd b (hF j b hb) hb'
  ·exact hj j k b hjk hb hb'
theorem NOwn.put {w w' : World} {base bo g cap : Nat} {ns : List (List KeyD)} {x : Value} {l : List KeyD} {i : Nat} (h : NOwn w base bo (.slice (some ⟨g, 0, none⟩) ns.length cap) ns) (hi : i < ns.length) (hb : Below w.heap.size w w') (hx : RowK w' w.heap.size x l) (hbo : bo < w.heap.size) (hbase : base ≤ w.heap.size) :
  NOwn (w'.setCell ⟨g, i, none⟩ x) base bo (.slice (some ⟨g, 0, none⟩) ns.length cap) (ns.set i l) := by
 obtain ⟨xs, h1, h2, h3⟩ := h
 have hg := (row_lt h1 g rfl).1
 refine ⟨xs.set i x, ?_, ?_, h3⟩
 ·have h := row_set (row_on h1 hb) i x
  rw [List.length_set]
  exact h
 ·have k1 := (h2.lt.on hb).setN (i := i) hx.owns (fun b hb hb' => by have := hb.2; omega)
  rw [List.map_set]
  refine OwnsL.mono (k1.keep (w' := w'.setCell ⟨g, i, none⟩ x) (fun b hb _ => Below.heap_setCell _ _ _ _ ?_)) ?_
  ·rintro rfl
   rcases hb with hb | hb
   ·exact hb.1.2 rfl
   ·omega
  ·rintro b (hb | hb)
   ·exact hb.1
   ·exact ⟨⟨by omega, by omega⟩, by simp [Value.ownBlock]; omega⟩
theorem own_growN {P : Nat → Prop} {wr w7 w8 : World} {base e z n : Nat} {u v' : Value} {xs news : List Value} {cs ds : List Dat} (hr : wr.ownsRow base e z u n xs) (ho : OwnsL wr (fun b => P b ∧ u.ownBlock ≠ some b) xs cs) (b7 : Below wr.heap.size wr w7) (hn : OwnsL w7 (fun b => wr.heap.size ≤ b ∧ b < w7.heap.size) news ds)
  (hg : w7.grownBy w8 u.ownBlock) (hat : v'.ownBlock = u.ownBlock ∨ v'.ownBlock = some w7.heap.size) (hP : ∀ b, wr.heap.size ≤ b → P b) : OwnsL w8 (fun b => P b ∧ v'.ownBlock ≠ some b) (xs ++ news) (cs ++ ds) := by
 have hO : Only (fun b => u.ownBlock = some b) w7 w8 := ⟨hg.os, hg.tape, hg.output, hg.size, fun i hi hn => hg.block i hi (fun e => hn e.symm)⟩
 have hz7 := b7.size
 have k1 : OwnsL w8 (fun b => (P b ∧ u.ownBlock ≠ some b) ∧ b < wr.heap.size) xs cs := (ho.lt.on b7).far hO (fun b hb _ hb' => hb.1.2 hb')
 have k2 := hn.far hO (fun b hb _ hb' => by have := (row_lt hr b hb').1; have := hb.1; omega)
 refine k1.append k2 (fun b hb => ⟨hb.1.1, fun hv => ?_⟩) (fun b hb => ⟨hP b hb.1, fun hv => ?_⟩) (fun b hb hb' => by have := hb.2; have := hb'.1; omega)
 ·rcases hat with h | h
  ·exact hb.1.2 (h ▸ hv)
  ·rw [h] at hv; simp at hv; have := hb.2; omega
 ·rcases hat with h | h
  ·have := (row_lt hr b (h ▸ hv)).1; have := hb.1; omega
  ·rw [h] at hv; simp at hv; have := hb.2; omega
/-- One more set, of one key, and the row's new value stored into the box. -/
theorem NOwn.app {w w8 : World} {base bo : Nat} {u v8 : Value} {ns : List (List KeyD)} {xs : List Value} {k : KeyD} (h1 : w.ownsRow base 36 1 u ns.length xs) (h2 : OwnsL w (fun b => (base ≤ b ∧ b ≠ bo) ∧ u.ownBlock ≠ some b) xs (ns.map keysD)) (h3 : u.ownBlock ≠ some bo) (hbo : bo < w.heap.size) (hbase : base ≤ w.heap.size)
  (o8 : w8.ownsRow base 36 1 v8 (ns.length + 1) (xs ++ [.slice (some ⟨w.heap.size, 0, none⟩) 1 1])) (g8 : ((w.alloc (.cells #[.int .i64 k.a, .int .i64 k.b, .int .i64 k.c, .int .i64 k.d, .int .i64 k.e] 29)).alloc (.cells #[.slice (some ⟨w.heap.size, 0, none⟩) 1 1] 36)).grownBy w8 u.ownBlock)
  (hat : v8.ownBlock = u.ownBlock ∨ v8.ownBlock = some ((w.alloc (.cells #[.int .i64 k.a, .int .i64 k.b, .int .i64 k.c, .int .i64 k.d, .int .i64 k.e] 29)).alloc (.cells #[.slice (some ⟨w.heap.size, 0, none⟩) 1 1] 36)).heap.size) :
  NOwn (w8.setCell ⟨bo, 0, none⟩ v8) base bo v8 (ns ++ [[k]]) := by
 have hrow : RowK (w.alloc (.cells #[.int .i64 k.a, .int .i64 k.b, .int .i64 k.c, .int .i64 k.d, .int .i64 k.e] 29)) w.heap.size (.slice (some ⟨w.heap.size, 0, none⟩) 1 1) [k] :=
  ⟨kvl_len _, .inr ⟨w.heap.size, 1, _, rfl, Nat.le_refl _, heap_alloc_new w _, Nat.le_refl _, by unfold maxLen; omega, rfl, rfl⟩⟩
 have hn8 : v8.ownBlock ≠ some bo := by
  rcases hat with h | h
  ·rw [h]; exact h3
  ·rw [h]; simp; omega
 have k2 := own_growN (P := fun b => base ≤ b ∧ b ≠ bo) h1 h2 (bal2 _ _ _) (OwnsL.one ((hrow.owns.on (bal1 _ (.cells #[.slice (some ⟨w.heap.size, 0, none⟩) 1 1] 36))).lt)) g8 hat (fun b hb => ⟨by omega, by omega⟩)
 refine ⟨xs ++ [.slice (some ⟨w.heap.size, 0, none⟩) 1 1], ?_, ?_, hn8⟩
 ·rw [List.length_append]
  exact row_keep o8 (fun g hg => Below.heap_setCell _ _ _ _ (fun e => hn8 (by have e' : g = bo := e; rw [← e']; exact hg)))
 ·rw [List.map_append]
  exact k2.keep (fun b hb _ => Below.heap_setCell _ _ _ _ hb.1.2)
set_option maxHeartbeats 1000000 in
theorem takesKey_any (v : Value) (l : List KeyD) (x : KeyD) (w : World) (hv : Reads w w.heap.size v (keysD l)) (hn : l.length ≤ 1100000) : Calls Tryz.prog 115 #[v, x.v] w (SaysBool w (takesB l x)) := by
 obtain ⟨A, c, rfl, _, _⟩ := hv.shapeK
 have B0 := bal1 w (.cells #[.int .i64 x.a, .int .i64 x.b, .int .i64 x.c, .int .i64 x.d, .int .i64 x.e] 29)
 have HV := Lib.hid (hv.on B0)
 have HB := Lib.hid B0
 have HI := Lib.hid implSetAt_any
 unfold SaysFind KeyD.v keyV at HI
 unfold KeyD.v keyV
 obtain ⟨y, hy⟩ : ∃ y, (atK l x.a x.b).isSome = y := ⟨_, rfl⟩
 have hT : takesB l x = (y || decide (l.length < 4)) := by rw [takesB, hy]
 rw [hT]
 have HY := Lib.hid hy
 clear hv B0 hy hT
 go_enter Tryz.func115, Tryz.ntmps115
 go_wp2_with fail
 refine (HI.out _ l x.a x.b _ HV.out (by omega)).mono ?_
 rintro r w1 ⟨rfl, b1⟩
 rw [HY.out]
 generalize (atK l x.a x.b).getD zK = z
 have B2 := Lib.hid (bstep (bstep HB.out b1) (bal1 w1 (.cells #[.int .i64 z.a, .int .i64 z.b, .int .i64 z.c, .int .i64 z.d, .int .i64 z.e] 29)))
 clear b1
 cases y
 ·have hd : decide ((l.length : Int) < 4) = decide (l.length < 4) := by congr 1; simp; omega
  go_wp2
  go_ret
  exact ⟨ret_boolB (by simp), B2.out⟩
 ·go_wp2
  go_ret
  exact ⟨ret_boolB rfl, B2.out⟩
end Go.Proofs.YthopkhpiikiknaaGreat
namespace Go.Proofs.YthopkhpiikiknaaGreat
open Go.RowKit
set_option maxRecDepth 100000
set_option linter.unusedSimpArgs false
set_option linter.unusedVariables false

section
variable {P : Program} {md : Region.Mode} {ops : Array Oper} {Q : Exit → Act → World → Prop} {S : World → Prop} {f : Nat}
/-- Two may come up: each is carried out. -/
theorem but_two {i j : Nat} {oi oj : Oper} {n : Nat} {listed : Array Bool} {a : Act} {w : World} (hr : Region.ready md ops listed = [i, j]) (hoi : ops[i]? = some oi) (hoj : ops[j]? = some oj) (hwi : Region.wanted oi (yielded ops a.tmps) = true) (hwj : Region.wanted oj (yielded ops a.tmps) = true)
  (h : ∀ K : Act → World → Prop, Hid (∀ a' w', (i ≠ f → S w') → anyBut P md ops Q S f n (listed.setIfInBounds i true) a' w' → K a' w') → Oper.wp P oi a w K Q)
  (h' : ∀ K : Act → World → Prop, Hid (∀ a' w', (j ≠ f → S w') → anyBut P md ops Q S f n (listed.setIfInBounds j true) a' w' → K a' w') → Oper.wp P oj a w K Q) : anyBut P md ops Q S f (n + 1) listed a w := by
 refine ⟨fun h0 => (by rw [h0] at hr; cases hr), fun m hm => ?_⟩
 rw [hr] at hm
 simp only [List.mem_cons, List.not_mem_nil, or_false] at hm
 rcases hm with rfl | rfl
 ·have h1 := h (fun a' w' => (m ≠ f → S w') ∧ anyBut P md ops Q S f n (listed.setIfInBounds m true) a' w') (Lib.hid (fun a' w' h2 h3 => ⟨h2, h3⟩))
  unfold wpOp
  simp only [hoi, hwi, if_true]
  exact .inl h1
 ·have h1 := h' (fun a' w' => (m ≠ f → S w') ∧ anyBut P md ops Q S f n (listed.setIfInBounds m true) a' w') (Lib.hid (fun a' w' h2 h3 => ⟨h2, h3⟩))
  unfold wpOp
  simp only [hoj, hwj, if_true]
  exact .inl h1
end
end Go.Proofs.YthopkhpiikiknaaGreat
namespace Go.Proofs.YthopkhpiikiknaaGreat
open Go.RowKit
set_option maxRecDepth 100000
set_option linter.unusedSimpArgs false
set_option linter.unusedVariables false

theorem wanted_at {o og : Oper} {ops : Array Oper} {tmps : Array Value} {g s : Nat} {b v : Bool} (hg : o.guard = some (g, b)) (ho : ops[g]? = some og) (hd : og.dst = some s) (hv : tmps[s]? = some (.bool v)) : Region.wanted o (yielded ops tmps) = (v == b) := by
 simp [Region.wanted, yielded, hg, ho, hd, hv]
end Go.Proofs.YthopkhpiikiknaaGreat
