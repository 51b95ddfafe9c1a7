/- The contract of impl.ReadSec: at every device and every int it returns new bytes, those that readD says. Conditions: no slice holds more than 2^20 elements. -/
import Derived.Test.YtmeiobpeacdfjaaDevBack
namespace Go.Proofs.Ytmeiobpeacdfjaa
open Go.RowKit Go.Shelf
set_option maxRecDepth 100000
set_option linter.unusedSimpArgs false
set_option linter.unusedVariables false
attribute [local go_sem] Oper.semAt_some
theorem box1 {w : World} {p : Nat} {a : Value} {t : TypeId} (h : w.heap[p]? = some (.cells #[a] t (0, 0))) : w.cell? ⟨p, 0, none⟩ = some a ∧ ∀ o, w.frozen? ⟨p, o, none⟩ = false :=
  ⟨by rw [cell_of_row w p 0 _ _ _ h]; rfl, fun o => frozen_of_row w p o _ _ h⟩
/-- Only blocks that are no cells have turned: what is owned is owned. -/
theorem Owns.keepC {w w' : World} {S : Nat → Prop} {v : Value} {c : Dat} (h : Owns w S v c) (hk : ∀ (b : Nat) (cur : Array Value) (e : TypeId), w.heap[b]? = some (.cells cur e (0, 0)) → w'.heap[b]? = some (.cells cur e (0, 0))) : Owns w' S v c := by
  induction h with
  | lit S u => exact .lit _ u
  | nil S e z => exact .nil _ e z
  | row S g n cap e z cur xs cs F hg hh hn hc hs hl hx ho hF hd ih => exact .row S g n cap e z cur xs cs F hg (hk g cur e hh) hn hc hs hl hx ih hF hd
theorem cells_keep {W W' : World} {row : Option Nat} (hg : W.grownBy W' row) (hr : ∀ r, row = some r → ∃ o : Obj, W.heap[r]? = some o ∧ o.isCells = false) (b : Nat) (cur : Array Value) (e : TypeId) (h : W.heap[b]? = some (.cells cur e (0, 0))) : W'.heap[b]? = some (.cells cur e (0, 0)) := by
  refine (hg.block b (Array.getElem?_eq_some_iff.1 h).1 (fun he => ?_)).trans h
  obtain ⟨o, h1, h2⟩ := hr b he.symm
  rw [h] at h1
  cases h1
  cases h2
/-- Between two rounds: the writes that have come are not to sector n. -/
def RdI2 (W0 : World) (ps : List (Int × List UInt8)) (n : Int) (pre : List (Fin ps.length)) (W : World) : Prop := Below W0.heap.size W0 W ∧ ∀ y ∈ pre, (ps[y.val]).1 ≠ n
/-- A round has found a write to sector n, and left. -/
def RdX (w W0 : World) (p : Nat) (ps : List (Int × List UInt8)) (n : Int) (c : Code) (pre : List (Fin ps.length)) (W : World) : Prop :=
  c = .ret ∧ (∃ q x u, pre = q ++ [x] ∧ (∀ y ∈ q, (ps[y.val]).1 ≠ n) ∧ (ps[x.val]).1 = n ∧ W.heap[p]? = some (.cells #[u] 22 (0, 0)) ∧ Owns W (fun b => W0.heap.size ≤ b) u (bytesD (ps[x.val]).2)) ∧ Below w.heap.size w W
theorem RdI2.own (W0 : World) (ps : List (Int × List UInt8)) (n : Int) : OwnFrom W0.heap.size (RdI2 W0 ps n) := OwnFrom.and (ownFrom_below (Nat.le_refl _) (Nat.le_refl _)) (ownFrom_pure _ _)
theorem RdX.own (w W0 : World) (p : Nat) (ps : List (Int × List UInt8)) (n : Int) (hw : w.heap.size ≤ W0.heap.size) (c : Code) : OwnFrom W0.heap.size (RdX w W0 p ps n c) := by
  intro s W W' row hs hg hr
  obtain ⟨hc, ⟨q, x, u, h1, h2, h3, h4, h5⟩, hB⟩ := hs
  have hr' : ∀ r, row = some r → ∃ o : Obj, W.heap[r]? = some o ∧ o.isCells = false := fun r e => (hr r e).2
  refine ⟨hc, ⟨q, x, u, h1, h2, h3, cells_keep hg hr' _ _ _ h4, h5.keepC (cells_keep hg hr')⟩, ?_⟩
  exact ownFrom_below (β := Unit) (Nat.le_refl _) hw () W W' row hB hg hr
def WrV2 (w : World) (zs : List Value) (ps : List (Int × List UInt8)) : Prop := ∀ k (h : k < ps.length), ∃ (A : Option Addr) (c : Nat), valOf zs k = .agg #[.int .i64 (ps[k]).1, .slice A (ps[k]).2.length c] ∧ Reads w w.heap.size (.slice A (ps[k]).2.length c) (bytesD (ps[k]).2)
theorem keepsFrom_below {B : Nat} {W W' : World} (h : Below W.heap.size W W') : KeepsFrom B W W' := ⟨h.size, fun k _ _ hk _ => (h.block k (Array.getElem?_eq_some_iff.1 hk).1).trans hk⟩
theorem Owns.isSlice {w : World} {S : Nat → Prop} {u : Value} {l : List UInt8} (h : Owns w S u (bytesD l)) : ∃ A c, u = .slice A l.length c := by
  obtain ⟨A, c, e, _⟩ := h.reads.bytes
  exact ⟨A, c, e⟩
set_option maxHeartbeats 4000000 in
theorem implReadSec_any (v : Value) (d : DevD) (n : Int) (w : World) (hv : RdDev w w.heap.size v d) (hs : SmallD d) : Calls Try.prog 20 #[v, .int .i64 n] w (NewB w (readD d n)) := by
  have HNO : Hid (¬ inD d n → readD d n = []) := Lib.hid readD_no
  have HYE : Hid (∀ k : Nat, n = k → ∀ (_ : inD d n) (hk : k < d.secs.length), readD d n = lastB d.cache n d.secs[k] d.cache.length) := Lib.hid (by rintro k rfl h hk; exact readD_yes h hk)
  generalize readD d n = L at *
  have HV := Lib.hid hv
  have HS := Lib.hid hs
  obtain ⟨A0, c0, A1, c1, rfl⟩ := hv.shape
  obtain ⟨q0, q1, q2⟩ := al3 w (.cells #[.slice A0 d.secs.length c0, .slice A1 d.cache.length c1, .int .i64 d.fuse, .bool d.down] 27) (.cells #[.int .i64 n] 3) (.cells #[.slice none 0 0] 22)
  have Q0 := Lib.hid q0
  have Q1 := Lib.hid q1
  have Q2 := Lib.hid q2
  have HB := Lib.hid (bal3 w (.cells #[.slice A0 d.secs.length c0, .slice A1 d.cache.length c1, .int .i64 d.fuse, .bool d.down] 27) (.cells #[.int .i64 n] 3) (.cells #[.slice none 0 0] 22))
  clear hv hs q0 q1 q2
  refine (callsIn_wide (n := 3)).1 ?_
  refine callsIn_of_wp_marks Try.func20 rfl trivial ?_ rfl
  simp only [Try.ntmps20, List.size_toArray, List.length_cons, List.length_nil, Nat.reduceAdd, Nat.reduceSub, Array.replicate_succ, Array.replicate_zero, List.push_toArray, List.append_toArray, List.nil_append, List.cons_append]
  gi_wp2_with fail
  refine ⟨trivial, (callsIn_wide.2 (implDevOk_any _ d _ (HV.out.on HB.out) HS.out)).mono ?_⟩
  rintro r w1 ⟨rfl, b1⟩
  replace HB := Lib.hid (bstep HB.out b1)
  replace Q0 := Lib.hid (box_on Q0.out b1)
  replace Q1 := Lib.hid (box_on Q1.out b1)
  replace Q2 := Lib.hid (box_on Q2.out b1)
  clear b1
  obtain ⟨x0, x1, x2, x3, x4⟩ := box4 Q0.out
  obtain ⟨y0, y1⟩ := box1 Q1.out
  obtain ⟨z0, z1⟩ := box1 Q2.out
  have hz1 : w.heap.size + 1 + 1 < w1.heap.size := (Array.getElem?_eq_some_iff.1 Q2.out).1
  cases hok : okD d
  · have HL := Lib.hid (HNO.out (fun h => by have := h.1; rw [hok] at this; cases this))
    gi_wp2
    refine ⟨trivial, ?_⟩
    gi_wp2
    refine ⟨.slice (some ⟨w1.heap.size, 0, none⟩) 0 0, by simp [results, Try.results20, go_sem, *], ⟨_, rfl, ?_, ?_⟩⟩
    · rw [HL.out]
      have h := Own.lit0 (w1.setCell ⟨w.heap.size + 1 + 1, 0, none⟩ (.slice (some ⟨w1.heap.size, 0, none⟩) 0 0))
      simp only [World.size_setCell] at h
      exact h.owns (by omega)
    · exact (HB.out.setCell (p := ⟨w.heap.size + 1 + 1, 0, none⟩) (show w.heap.size ≤ w.heap.size + 1 + 1 by omega) _).alloc (by simp only [World.size_setCell]; omega) _
  · by_cases hin : 0 ≤ n ∧ n < (d.secs.length : Int)
    · obtain ⟨k, rfl⟩ := Int.eq_ofNat_of_zero_le hin.1
      have hk : k < d.secs.length := by have := hin.2; omega
      have HL := Lib.hid (HYE.out k rfl ⟨hok, by omega, by omega⟩ hk)
      clear HYE HNO
      gi_wp2_with fail
      refine ⟨trivial, (callsIn_wide.2 (hasSec_yes A0 c0 d.secs.length _ _ _ k _ hin.1 hin.2)).mono ?_⟩
      rintro r w2 ⟨rfl, b2⟩
      replace HB := Lib.hid (bstep HB.out b2)
      replace Q0 := Lib.hid (box_on Q0.out b2)
      replace Q1 := Lib.hid (box_on Q1.out b2)
      replace Q2 := Lib.hid (box_on Q2.out b2)
      have hz2 := b2.size
      clear x0 x1 x2 x3 x4 y0 y1 z0 z1 b2
      obtain ⟨x0, x1, x2, x3, x4⟩ := box4 Q0.out
      obtain ⟨y0, y1⟩ := box1 Q1.out
      obtain ⟨z0, z1⟩ := box1 Q2.out
      gi_wp2_with fail
      refine ⟨trivial, (back_in Fence.wide _ trivial rfl _ _ _ _).mono ?_⟩
      rintro r w3 ⟨rfl, rfl⟩
      gi_wp2_with fail
      obtain ⟨v0, v1, he, r0, r1⟩ := HV.out
      simp at he
      obtain ⟨rfl, rfl⟩ := he
      have R0 := Lib.hid r0
      obtain ⟨A', cap', he, _, hcm, hcl, _, hcs⟩ := r1.row'
      simp at he
      obtain ⟨rfl, rfl⟩ := he
      have hzs : ∃ zs : List Value, WrV zs d.cache ∧ WrV2 w zs d.cache ∧ AtB w w.heap.size A1 zs := by
        have hl := cache_len d.cache
        rcases hcs with h | ⟨b, off, xs, rfl, hb, hx, hcell, hr⟩
        · have h0 : d.cache.length = 0 := by rw [h] at hl; simp at hl; omega
          exact ⟨[], ⟨by simp [h0], fun k hk => by omega⟩, fun k hk => by omega, .inl rfl⟩
        · exact ⟨xs, ⟨by rw [hx, hl], fun k hk => by obtain ⟨A, c, e0, e1, _, e2⟩ := wr_cells ⟨hx, hr⟩ hk; exact ⟨A, c, e0, e1, e2⟩⟩, fun k hk => by obtain ⟨A, c, _, _, e1, e2⟩ := wr_cells ⟨hx, hr⟩ hk; exact ⟨A, c, e2, e1⟩, .inr ⟨b, off, rfl, hb, hcell⟩⟩
      obtain ⟨zs, hz3, hz4, hz5⟩ := hzs
      have HZ4 := Lib.hid hz4
      clear hcs hcl r0 r1 hz4
      have QB := al1 w2 (.cells #[.slice A1 d.cache.length c1] 25)
      have hBB := bstep HB.out (bal1 w2 (.cells #[.slice A1 d.cache.length c1] 25))
      replace Q0 := Lib.hid (box_on Q0.out (bal1 w2 (.cells #[.slice A1 d.cache.length c1] 25)))
      replace Q1 := Lib.hid (box_on Q1.out (bal1 w2 (.cells #[.slice A1 d.cache.length c1] 25)))
      replace Q2 := Lib.hid (box_on Q2.out (bal1 w2 (.cells #[.slice A1 d.cache.length c1] 25)))
      have hsz : (w2.alloc (.cells #[.slice A1 d.cache.length c1] 25)).heap.size = w2.heap.size + 1 := by simp
      clear x0 x1 x2 x3 x4 y0 y1 z0 z1 HB
      generalize w2.alloc (.cells #[.slice A1 d.cache.length c1] 25) = W0 at *
      have cl : d.cache.length ≤ 1048576 := HS.out.2.1
      have SB := Lib.hid HS.out.2.2.2
      have SS := Lib.hid HS.out.2.2.1
      have hww : w.heap.size ≤ W0.heap.size := hBB.size
      refine wpIn_rangeFunc_ownH rfl (by omega) (gf := 88) (lb := #[.pointer (some ⟨w2.heap.size, 0, none⟩)]) rfl trivial (enters_of Try.func88 (by kernel_rfl) rfl)
        (back_stops Fence.wide _ trivial rfl (by omega) w2.heap.size W0.heap.size A1 c1 zs d.cache cl (by omega) W0 (Nat.le_refl _) (box1 QB).1 (by
          rcases hz5 with h | ⟨b, off, h1, h2, h3⟩
          · exact .inl h
          · exact .inr ⟨b, off, h1, by omega, fun i hi => (hBB.cell (p := ⟨b, off + i, none⟩) h2).trans (h3 i hi)⟩) hz3) belowK_t (belowK_b (Nat.le_refl _)) (Below.refl _ _) (fun _ => rfl)
        (RdI2 W0 d.cache k) (RdX w W0 (w.heap.size + 1 + 1) d.cache k) (RdI2.own _ _ _) (RdX.own _ _ _ _ _ hww) ⟨Below.refl _ _, fun y hy => by cases hy⟩
        (fun x a' W => ∃ Bx A c, W0.heap.size ≤ Bx ∧ W.heap[Bx]? = some (.cells #[.int .i64 (d.cache[x.val]).1, .slice A (d.cache[x.val]).2.length c] 78 (0, 0)) ∧ Reads w w.heap.size (.slice A (d.cache[x.val]).2.length c) (bytesD (d.cache[x.val]).2) ∧
          a' = { tmps := #[.agg #[.slice A0 d.secs.length c0, .slice A1 d.cache.length c1, .int .i64 d.fuse, .bool d.down], .int .i64 k, .pointer (some ⟨w.heap.size, 0, none⟩), .pointer (some ⟨w.heap.size + 1, 0, none⟩), .pointer (some ⟨w.heap.size + 1 + 1, 0, none⟩), undef, .pointer (some ⟨Bx, 0, none⟩), .agg #[.slice A0 d.secs.length c0, .slice A1 d.cache.length c1, .int .i64 d.fuse, .bool d.down], .bool true, .bool false, .bool false, .agg #[.slice A0 d.secs.length c0, .slice A1 d.cache.length c1, .int .i64 d.fuse, .bool d.down], .int .i64 k, .bool true, .bool false, .bool false, undef, .pointer (some ⟨w.heap.size, 1, none⟩), .slice A1 d.cache.length c1, .func (.func 88) #[] #[.pointer (some ⟨w2.heap.size, 0, none⟩)], .int .i64 (x.val : Int), .agg #[.int .i64 (d.cache[x.val]).1, .slice A (d.cache[x.val]).2.length c], undef, undef, undef, undef, undef, undef, undef, undef, undef, undef, undef, undef, undef], defers := [] })
        (fun x a' _ X Y row hs hg hr => by obtain ⟨Bx, A, c, h1, h2, h3, h4⟩ := hs; exact ⟨Bx, A, c, h1, cells_keep hg (fun r e => (hr r e).2) _ _ _ h2, h3, h4⟩)
        ?assign ?body ?done ?stop
      case assign =>
        rintro l pre x W K ⟨hB, hpre⟩ hK
        obtain ⟨A, c, hv, hrd⟩ := HZ4.out x.val x.isLt
        have HRD := Lib.hid hrd
        clear hrd
        simp only [hv]
        gi_wp2
        exact hK _ _ ((KeepsOthers.alloc _ _).from _) ((Below.refl _ W).alloc hB.size _) ⟨hB.alloc hB.size _, hpre⟩ ⟨W.heap.size, A, c, hB.size, al1 _ _, HRD.out, rfl⟩
      case body =>
        rintro l pre x a' W hl ⟨r, hr⟩ ⟨hB, hpre⟩ ⟨Bx, A, c, hBx, qx, hrd, rfl⟩ hlt
        have HRD := Lib.hid (hrd.on (hBB.trans (hB.mono hww)))
        obtain ⟨a0, a1, a2⟩ := box2 qx
        have qn := box_on Q1.out hB
        obtain ⟨y0, y1⟩ := box1 qn
        have qr := box_on Q2.out hB
        obtain ⟨z0, z1⟩ := box1 qr
        have hzr : w.heap.size + 1 + 1 < W0.heap.size := (Array.getElem?_eq_some_iff.1 Q2.out).1
        have hzW := hB.size
        have QR := Lib.hid qr
        have HBW := Lib.hid hB
        have HPR := Lib.hid hpre
        have HX := Lib.hid (SB.out _ (List.getElem_mem (h := x.isLt)))
        clear hrd qx qn qr hB hpre
        by_cases hm : (d.cache[x.val]).1 = (k : Int)
        · have hz : ((d.cache[x.val]).1 == (k : Int)) = true := by simp [hm]
          have HM := Lib.hid hm
          clear hm
          gi_wp2_with fail
          refine ⟨trivial, (CallsIn.inRound l (callsIn_wide.2 (cloneB_any _ _ _ HRD.out HX.out))).mono ?_⟩
          rintro e w4 ⟨u, rfl, o4, b4⟩
          obtain ⟨A4, c4, rfl⟩ := o4.isSlice
          have q4 := box_on QR.out b4
          have Q4 := Lib.hid q4
          clear z0 z1 y0 y1 a0 a1 a2
          obtain ⟨z0, z1⟩ := box1 q4
          have hz4 := b4.size
          have FIN : Hid (KeepsFrom W0.heap.size W (w4.setCell ⟨w.heap.size + 1 + 1, 0, none⟩ (.slice A4 (d.cache[x.val]).2.length c4)) ∧ RdX w W0 (w.heap.size + 1 + 1) d.cache k .ret (pre ++ [x]) (w4.setCell ⟨w.heap.size + 1 + 1, 0, none⟩ (.slice A4 (d.cache[x.val]).2.length c4))) := Lib.hid ⟨(keepsFrom_below b4).trans ((KeepsOthers.setCell _ _ _).from _), rfl, ⟨pre, x, _, rfl, HPR.out, HM.out, box_set q4, (o4.mono (fun b hb => Nat.le_trans hzW hb)).keep (fun b hb _ => Below.heap_setCell _ _ _ _ (fun h => by have h1 : b = w.heap.size + 1 + 1 := h; have h2 : W0.heap.size ≤ b := hb; omega))⟩, ((hBB.trans (HBW.out.mono hww)).trans (b4.mono (Nat.le_trans hww hzW))).setCell (p := ⟨w.heap.size + 1 + 1, 0, none⟩) (show w.heap.size ≤ w.heap.size + 1 + 1 by omega) _⟩
          clear q4 o4 b4
          gi_wp2
          exact FIN.out
        · have hz : ((d.cache[x.val]).1 == (k : Int)) = false := by simp [hm]
          have HM := Lib.hid hm
          clear hm
          gi_wp2
          exact ⟨KeepsFrom.refl _ _, Below.refl _ _, HBW.out, fun y hy => (List.mem_append.1 hy).elim (HPR.out y) (fun e => by simp at e; subst e; exact HM.out)⟩
      case done =>
        rintro D xs W hD rfl ⟨hB, hall⟩ hK
        have hLs : L = d.secs[k] := by
          rw [HL.out, lastB_skip (k := 0) (fun j hj _ => hall ⟨j, hj⟩ (downL_mem (by simp) (Nat.le_refl _))) _ (Nat.zero_le _) (Nat.le_refl _)]
          rfl
        have HLS := Lib.hid hLs
        obtain ⟨x0, x1, x2, x3, x4⟩ := box4 (box_on Q0.out hB)
        obtain ⟨y0, y1⟩ := box1 (box_on Q1.out hB)
        have qr := box_on Q2.out hB
        have hzr : w.heap.size + 1 + 1 < W0.heap.size := (Array.getElem?_eq_some_iff.1 Q2.out).1
        have QR := Lib.hid qr
        have hBW := hBB.trans (hB.mono hww)
        obtain ⟨b, off, c, A, c', he, u0, u1⟩ := secs_at (R0.out.on hBW) hk
        simp at he
        obtain ⟨rfl, rfl⟩ := he
        have U1 := Lib.hid u1
        have HBW := Lib.hid hBW
        have HKD := Lib.hid hK
        have i1 : (k : Int) < (d.secs.length : Int) := by omega
        have hzW := hB.size
        have hDW : D < W.heap.size := (Array.getElem?_eq_some_iff.1 hK).1
        clear hall hLs qr hBW u1 hK hB
        gi_wp2_with fail
        refine ⟨trivial, (callsIn_wide.2 (cloneB_any _ _ _ U1.out (SS.out _ (List.getElem_mem _)))).mono ?_⟩
        rintro e w4 ⟨u, rfl, o4, b4⟩
        obtain ⟨A4, c4, rfl⟩ := o4.isSlice
        have q4 := box_on QR.out b4
        have hz4 := b4.size
        have hK4 : w4.heap[D]? = some (.deferred (some [])) := (b4.block D hDW).trans HKD.out
        have hK5 := (KeepsOthers.setCell w4 ⟨w.heap.size + 1 + 1, 0, none⟩ (.slice A4 (d.secs[k]).length c4)).same D _ hK4 rfl
        have q5 := box_set (i := 0) (u := .slice A4 (d.secs[k]).length c4) q4
        have o5 := (o4.mono (fun b hb => Nat.le_trans hzW hb)).keep (w' := w4.setCell ⟨w.heap.size + 1 + 1, 0, none⟩ (.slice A4 (d.secs[k]).length c4)) (fun b hb _ => Below.heap_setCell _ _ _ _ (fun h => by have h1 : b = w.heap.size + 1 + 1 := h; have h2 : W0.heap.size ≤ b := hb; omega))
        have b5 := (HBW.out.trans (b4.mono (Nat.le_trans hww hzW))).setCell (p := ⟨w.heap.size + 1 + 1, 0, none⟩) (show w.heap.size ≤ w.heap.size + 1 + 1 by omega) (.slice A4 (d.secs[k]).length c4)
        obtain ⟨z0, z1⟩ := box1 q4
        have K5 := Lib.hid hK5
        have Q5 := Lib.hid q5
        have O5 := Lib.hid o5
        have B5 := Lib.hid b5
        clear x0 x1 x2 x3 x4 y0 y1 u0 q4 o4 b4 hK4 hK5 q5 o5 b5
        gi_wp2
        refine ⟨by simp, .inl ⟨_, _, rfl, run_takeDeferred K5.out, ?_⟩⟩
        have hput := cells_keep (grownBy_putObj' _ D (.deferred none)) (fun r e => by cases e; exact ⟨_, K5.out, rfl⟩)
        have hc5 := (box1 (hput _ _ _ Q5.out)).1
        refine ⟨.slice A4 (d.secs[k]).length c4, ?_, ⟨_, rfl, ?_, B5.out.trans (belowK_b (w := w) (Nat.le_refl _) _ D _ _ (by omega) K5.out rfl rfl)⟩⟩
        · simp [results, Try.results20, go_sem, hc5]
        · rw [HLS.out]
          exact (O5.out.keepC hput).mono (fun b hb => Nat.le_trans hww hb)
      case stop =>
        rintro D c pre W hD hpre ⟨rfl, ⟨q, x, u, h1, h2, h3, h4, h5⟩, hB⟩ hK
        obtain ⟨j, hj, rfl⟩ := hpre
        have hLx : L = (d.cache[x.val]).2 := by
          obtain ⟨i, rfl⟩ : ∃ i, j = i + 1 := by
            cases j with
            | zero => rw [downL_zero] at h1; exact absurd h1 (by simp)
            | succ i => exact ⟨i, rfl⟩
          rw [downL_succ (by omega)] at h1
          obtain ⟨hq, hx⟩ := List.append_inj' h1 rfl
          simp at hx
          have hxv : x.val = d.cache.length - 1 - i := by rw [← hx]
          rw [HL.out, lastB_skip (k := x.val + 1) (fun jj hjj hle => h2 ⟨jj, hjj⟩ (by rw [← hq]; exact downL_mem (by simp; omega) (by omega))) _ (by omega) (Nat.le_refl _), lastB_hit x.isLt h3]
        gi_wp2
        refine ⟨by simp, .inl ⟨_, _, rfl, run_takeDeferred hK, ?_⟩⟩
        have hput := cells_keep (grownBy_putObj' _ D (.deferred none)) (fun r e => by cases e; exact ⟨_, hK, rfl⟩)
        have hc5 := (box1 (hput _ _ _ h4)).1
        refine ⟨u, ?_, ⟨_, rfl, ?_, hB.trans (belowK_b (w := w) (Nat.le_refl _) _ D _ _ (by omega) hK rfl rfl)⟩⟩
        · obtain ⟨A5, c5, rfl⟩ := h5.isSlice
          simp [results, Try.results20, go_sem, hc5]
        · rw [hLx]
          exact (h5.keepC hput).mono (fun b hb => Nat.le_trans hww hb)
    · have HL := Lib.hid (HNO.out (fun h => hin ⟨h.2.1, h.2.2⟩))
      have hno : n < 0 ∨ (d.secs.length : Int) ≤ n := by omega
      clear hin
      gi_wp2_with fail
      refine ⟨trivial, (callsIn_wide.2 (hasSec_no A0 c0 d.secs.length _ _ _ n _ hno)).mono ?_⟩
      rintro r w2 ⟨rfl, b2⟩
      replace HB := Lib.hid (bstep HB.out b2)
      replace Q2 := Lib.hid (box_on Q2.out b2)
      have hz2 := b2.size
      clear x0 x1 x2 x3 x4 y0 y1 z0 z1 b2
      obtain ⟨z0, z1⟩ := box1 Q2.out
      have hz3 : w.heap.size + 1 + 1 < w2.heap.size := by omega
      gi_wp2
      refine ⟨.slice (some ⟨w2.heap.size, 0, none⟩) 0 0, by simp [results, Try.results20, go_sem, *], ⟨_, rfl, ?_, ?_⟩⟩
      · rw [HL.out]
        have h := Own.lit0 (w2.setCell ⟨w.heap.size + 1 + 1, 0, none⟩ (.slice (some ⟨w2.heap.size, 0, none⟩) 0 0))
        simp only [World.size_setCell] at h
        exact h.owns (by omega)
      · exact (HB.out.setCell (p := ⟨w.heap.size + 1 + 1, 0, none⟩) (show w.heap.size ≤ w.heap.size + 1 + 1 by omega) _).alloc (by simp only [World.size_setCell]; omega) _
end Go.Proofs.Ytmeiobpeacdfjaa
