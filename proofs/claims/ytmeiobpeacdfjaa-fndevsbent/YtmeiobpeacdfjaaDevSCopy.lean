/- The contract of spec.l2Copy: a new device in new memory that reads alike. Conditions: no slice holds more than 2^20 elements. -/
import Derived.Test.YtmeiobpeacdfjaaDevPtr
import Derived.Test.YtmeiobpeacdfjaaLast
namespace Go.Proofs.Ytmeiobpeacdfjaa
open Go.RowKit
set_option maxRecDepth 100000
set_option linter.unusedSimpArgs false
set_option linter.unusedVariables false

def SC1 (p1 b1 : Nat) (o1 : Nat) (v1 e1 : Value) (p3 : Nat) (v3 : Value) (W : World) : Prop := W.cell? ⟨p1, 0, none⟩ = some v1 ∧ W.cell? ⟨b1, o1, none⟩ = some e1 ∧ W.cell? ⟨p3, 0, none⟩ = some v3
theorem SC1.on {p1 b1 o1 : Nat} {v1 e1 : Value} {p3 : Nat} {v3 : Value} {wr W : World} (h : SC1 p1 b1 o1 v1 e1 p3 v3 wr) (hb : Below wr.heap.size wr W) : SC1 p1 b1 o1 v1 e1 p3 v3 W :=
  have k : ∀ (b o : Nat) (v : Value), wr.cell? ⟨b, o, none⟩ = some v → W.cell? ⟨b, o, none⟩ = some v := fun b o _ hc => (World.cell?_of_block (a := ⟨b, o, none⟩) (hb.block b (World.block_lt_of_cell? wr _ hc))).trans hc
  ⟨k _ _ _ h.1, k _ _ _ h.2.1, k _ _ _ h.2.2⟩
theorem SC1.grown {p1 b1 o1 : Nat} {v1 e1 : Value} {p3 : Nat} {v3 : Value} {wr W : World} {g : Option Nat} (h : SC1 p1 b1 o1 v1 e1 p3 v3 wr) (hg : wr.grownBy W g) (h1 : g ≠ some p1) (h2 : g ≠ some b1) (h3 : g ≠ some p3) : SC1 p1 b1 o1 v1 e1 p3 v3 W :=
  have k : ∀ (b o : Nat) (v : Value), g ≠ some b → wr.cell? ⟨b, o, none⟩ = some v → W.cell? ⟨b, o, none⟩ = some v := fun b o _ hn hc => (World.cell?_of_block (a := ⟨b, o, none⟩) (hg.block b (World.block_lt_of_cell? wr _ hc) (fun e => hn e.symm))).trans hc
  ⟨k _ _ _ h1 h.1, k _ _ _ h2 h.2.1, k _ _ _ h3 h.2.2⟩
def SC2 (p1 b1 o1 o2 : Nat) (v1 e1 e2 : Value) (p3 : Nat) (v3 : Value) (W : World) : Prop := W.cell? ⟨p1, 1, none⟩ = some v1 ∧ W.cell? ⟨b1, o1, none⟩ = some e1 ∧ W.cell? ⟨b1, o2, none⟩ = some e2 ∧ W.cell? ⟨p3, 1, none⟩ = some v3
theorem SC2.on {p1 b1 o1 o2 : Nat} {v1 e1 e2 : Value} {p3 : Nat} {v3 : Value} {wr W : World} (h : SC2 p1 b1 o1 o2 v1 e1 e2 p3 v3 wr) (hb : Below wr.heap.size wr W) : SC2 p1 b1 o1 o2 v1 e1 e2 p3 v3 W :=
  have k : ∀ (b o : Nat) (v : Value), wr.cell? ⟨b, o, none⟩ = some v → W.cell? ⟨b, o, none⟩ = some v := fun b o _ hc => (World.cell?_of_block (a := ⟨b, o, none⟩) (hb.block b (World.block_lt_of_cell? wr _ hc))).trans hc
  ⟨k _ _ _ h.1, k _ _ _ h.2.1, k _ _ _ h.2.2.1, k _ _ _ h.2.2.2⟩
theorem SC2.grown {p1 b1 o1 o2 : Nat} {v1 e1 e2 : Value} {p3 : Nat} {v3 : Value} {wr W : World} {g : Option Nat} (h : SC2 p1 b1 o1 o2 v1 e1 e2 p3 v3 wr) (hg : wr.grownBy W g) (h1 : g ≠ some p1) (h2 : g ≠ some b1) (h3 : g ≠ some p3) : SC2 p1 b1 o1 o2 v1 e1 e2 p3 v3 W :=
  have k : ∀ (b o : Nat) (v : Value), g ≠ some b → wr.cell? ⟨b, o, none⟩ = some v → W.cell? ⟨b, o, none⟩ = some v := fun b o _ hn hc => (World.cell?_of_block (a := ⟨b, o, none⟩) (hg.block b (World.block_lt_of_cell? wr _ hc) (fun e => hn e.symm))).trans hc
  ⟨k _ _ _ h1 h.1, k _ _ _ h2 h.2.1, k _ _ _ h2 h.2.2.1, k _ _ _ h3 h.2.2.2⟩
theorem oper_appV {P : Program} {o : Oper} {a : Act} {K : Act → World → Prop} {Q : Exit → Act → World → Prop} (w : World) (hgd : o.guard = none) (s x : Operand) (t e z by_ : Nat) (zero : Value)
    (hop : o.op = .call { callee := .builtin .append, args := #[s, x], argTypes := #[t, t] }) (ht : P.underlying t = some (.slice e)) (hinfo : (P.info? e).map (fun i => (i.zero, i.size, i.bytes)) = some (some zero, z, by_)) (hzc : zero.cells.size = z) (hz : 0 < z) (hby : by_ ≤ 1024)
    (base n : Nat) (v : Value) (xs : List Value) (hs : a.eval s = v) (hown : w.ownsRow base e z v n xs) (A : Option Addr) (m c : Nat) (news : List Value) (hx : a.eval x = .slice A m c) (hl : news.length = m * z) (hA : At w A news) (h1 : ∀ u ∈ news, u.oneCell' = true) (hlen : n + m ≤ 1073741824) (hbase : base ≤ w.heap.size)
    (h : ∀ v' w', w'.ownsRow base e z v' (n + m) (xs ++ news) → w.grownBy w' v.ownBlock → (v' = .slice none 0 0 ↔ v = .slice none 0 0 ∧ m = 0) → (v'.ownBlock = v.ownBlock ∨ v'.ownBlock = some w.heap.size) → K (a.put o.dst v') w') : Oper.wp P o a w K Q := by
  have h2 := step_appV (ops := #[]) (Q := Q) (E := True) w hgd s x t e z by_ zero hop ht hinfo hzc hz hby base n v xs hs hown A m c news hx hl hA h1 hlen hbase h
  rwa [if_pos (by simp [Region.wanted, hgd])] at h2
def SecIn (w : World) (d : DevD) (bx1 bx2 : Obj) (k : Nat) (wr : World) : Prop :=
  ∃ u xs, wr.ownsRow (w.heap.size + 3) 22 1 u k xs ∧ OwnsL wr (Tof (w.heap.size + 3) u) xs ((d.secs.take k).map bytesD) ∧ wr.heap[w.heap.size]? = some bx1 ∧ wr.heap[w.heap.size + 1]? = some bx2 ∧ wr.heap[w.heap.size + 1 + 1]? = some (.cells #[u, .slice none 0 0, .int .i64 d.fuse, .bool d.down] 27) ∧ Below w.heap.size w wr
def CacheIn (w : World) (d : DevD) (bx1 bx2 : Obj) (u : Value) (B : Nat) (k : Nat) (wt : World) : Prop :=
  ∃ v ys, wt.ownsRow B 78 2 v k ys ∧ OwnsL wt (Tof B v) ys ((d.cache.take k).flatMap wrC) ∧ wt.heap[w.heap.size]? = some bx1 ∧ wt.heap[w.heap.size + 1]? = some bx2 ∧ wt.heap[w.heap.size + 1 + 1]? = some (.cells #[u, v, .int .i64 d.fuse, .bool d.down] 27) ∧ Owns wt (fun b => w.heap.size + 3 ≤ b ∧ b < B) u (secsD d.secs) ∧ B ≤ wt.heap.size ∧ Below w.heap.size w wt
set_option maxHeartbeats 4000000 in
theorem l2Copy_any (v : Value) (d : DevD) (w : World) (hv : RdDev w w.heap.size v d) (hs : SmallD d) : Calls Try.prog 67 #[v] w (NewDev w d) := by
  obtain ⟨v0, v1, rfl, hv0, hv1⟩ := hv
  obtain ⟨s1, s2, s3, s4⟩ := hs
  have S3 := Lib.hid s3
  have S4 := Lib.hid s4
  obtain ⟨A0, d0, e0, _, _⟩ := hv0.len
  obtain ⟨A1, d1, e1, _, _⟩ := hv1.len
  subst e0 e1
  have V0 := Lib.hid hv0
  have V1 := Lib.hid hv1
  obtain ⟨q0, q1, q2⟩ := al3 w (.cells #[.slice A0 d.secs.length d0, .slice A1 d.cache.length d1, .int .i64 d.fuse, .bool d.down] 27) (.cells #[.slice none 0 0, .slice none 0 0, .int .i64 0, .bool false] 27) (.cells #[.slice none 0 0, .slice none 0 0, .int .i64 d.fuse, .bool d.down] 27)
  have REL : Hid (SecIn w d (.cells #[.slice A0 d.secs.length d0, .slice A1 d.cache.length d1, .int .i64 d.fuse, .bool d.down] 27) (.cells #[.slice none 0 0, .slice none 0 0, .int .i64 0, .bool false] 27) 0 _) := Lib.hid ⟨.slice none 0 0, [], row_nil _ _ _ _, by simpa using OwnsL.nil _ _, q0, q1, q2, bal3 _ _ _ _⟩
  clear s3 s4 hv0 hv1 q0 q1 q2
  go_enter Try.func67, Try.ntmps67
  go_wp2
  go_loopw [4] (fun i wr => ∃ k : Nat, k ≤ d.secs.length ∧ i = .int .i64 k ∧ Hid (SecIn w d (.cells #[.slice A0 d.secs.length d0, .slice A1 d.cache.length d1, .int .i64 d.fuse, .bool d.down] 27) (.cells #[.slice none 0 0, .slice none 0 0, .int .i64 0, .bool false] 27) k wr)) (fun i _ => d.secs.length - (intOf i).toNat)
  case atStart => exact ⟨0, Nat.zero_le _, rfl, REL⟩
  case round =>
    obtain ⟨k, hk, rfl, HC⟩ := hrel
    obtain ⟨u, xs, hr, ho, q0, q1, q2, hb⟩ := HC.out
    obtain ⟨x0, x1, x2, x3, x4⟩ := box4 q0
    by_cases hlt : k < d.secs.length
    · obtain ⟨b, off, rfl, hb0, _⟩ := V0.out.sec hlt
      obtain ⟨b', off', hbe, hbb, hc⟩ := (V0.out.on hb).sec hlt
      cases hbe
      obtain ⟨A2, d2, c1, _, _, r1⟩ := hc k hlt
      obtain ⟨z0, z1, z2, z3, z4⟩ := box4 q2
      obtain ⟨Au, cu, rfl⟩ := row_form hr
      have hzw : w.heap.size + 1 + 1 < wr.heap.size := (Array.getElem?_eq_some_iff.1 q2).1
      have hzx : w.heap.size < wr.heap.size := by omega
      have i1 : (k : Int) < (d.secs.length : Int) := by omega
      have i2 : (0 : Int) ≤ (k : Int) := by omega
      have hlk := S3.out d.secs[k] (List.getElem_mem _)
      have n1 : ¬ w.heap.size + 1 + 1 = w.heap.size := by omega
      have n2 : ¬ w.heap.size = w.heap.size + 1 + 1 := by omega
      have Q0 := Lib.hid q0
      have Q1 := Lib.hid q1
      have Q2 := Lib.hid q2
      have HR := Lib.hid hr
      have HO := Lib.hid ho
      have HB := Lib.hid hb
      have R1 := Lib.hid r1
      have BL : Hid ((bv d.secs[k]).length = (d.secs[k]).length * 1) := Lib.hid (by rw [bv_length]; omega)
      have AT := Lib.hid (Rd.at (R1.out.on ((Below.refl _ _).drew.alloc (Nat.le_refl _) (.cells #[] 5))))
      have HZ1 : Hid (wr.heap.size ≤ (wr.drew.alloc (.cells #[] 5)).heap.size) := Lib.hid (Nat.le_of_lt (by rw [World.size_alloc]; exact Nat.lt_succ_self _))
      have C1 := Lib.hid c1
      clear hc q0 q1 q2 hr ho hb r1 HC
      go_wp2
      have hSW : SC1 w.heap.size b (off + k) (.slice (some ⟨b, off, none⟩) d.secs.length d0) (.slice A2 (d.secs[k]).length d2) (w.heap.size + 1 + 1) (.slice Au k cu) wr.drew := ⟨x0, c1, z0⟩
      have hSV : SC1 w.heap.size b (off + k) (.slice (some ⟨b, off, none⟩) d.secs.length d0) (.slice A2 (d.secs[k]).length d2) (w.heap.size + 1 + 1) (.slice Au k cu) wr := ⟨x0, c1, z0⟩
      refine but_begin (f := 12) (S := SC1 w.heap.size b (off + k) (.slice (some ⟨b, off, none⟩) d.secs.length d0) (.slice A2 (d.secs[k]).length d2) (w.heap.size + 1 + 1) (.slice Au k cu)) (by kernel_rfl) ?_
      refine but_take (f := 12) (i := 0) (v := ?v0) rfl (by kernel_rfl) (by kernel_rfl) (by kernel_rfl) (by kernel_rfl) (by kernel_rfl) (fun _ _ _ h => h) (Or.inl ⟨by rfl, ?hy0⟩) hSW ?rest0
      case hy0 =>
        intro W hW
        obtain ⟨h1, h2, h3⟩ := hW
        go_simp
        exact rfl
      simp only [Act.put, List.setIfInBounds_toArray]
      refine but_take (f := 12) (i := 1) (v := ?v1) rfl (by kernel_rfl) (by kernel_rfl) (by kernel_rfl) (by kernel_rfl) (by kernel_rfl) (fun _ _ _ h => h) (Or.inl ⟨by rfl, ?hy1⟩) hSW ?rest1
      case hy1 =>
        intro W hW
        obtain ⟨h1, h2, h3⟩ := hW
        go_simp
        exact rfl
      simp only [Act.put]
      refine but_take (f := 12) (i := 3) (v := ?v3) rfl (by kernel_rfl) (by kernel_rfl) (by kernel_rfl) (by kernel_rfl) (by kernel_rfl) (fun _ _ _ h => h) (Or.inl ⟨by rfl, ?hy3⟩) hSW ?rest3
      case hy3 =>
        intro W hW
        obtain ⟨h1, h2, h3⟩ := hW
        go_simp
        exact rfl
      simp only [Act.put]
      refine but_take (f := 12) (i := 4) (v := ?v4) rfl (by kernel_rfl) (by kernel_rfl) (by kernel_rfl) (by kernel_rfl) (by kernel_rfl) (fun _ _ _ h => h) (Or.inl ⟨by rfl, ?hy4⟩) hSW ?rest4
      case hy4 =>
        intro W hW
        obtain ⟨h1, h2, h3⟩ := hW
        go_simp
        exact rfl
      simp only [Act.put]
      refine but_take (f := 12) (i := 5) (v := ?v5) rfl (by kernel_rfl) (by kernel_rfl) (by kernel_rfl) (by kernel_rfl) (by kernel_rfl) (fun _ _ _ h => h) (Or.inl ⟨by rfl, ?hy5⟩) hSW ?rest5
      case hy5 =>
        intro W hW
        obtain ⟨h1, h2, h3⟩ := hW
        go_simp
        exact rfl
      simp only [Act.put]
      refine but_take (f := 12) (i := 6) (v := ?v6) rfl (by kernel_rfl) (by kernel_rfl) (by kernel_rfl) (by kernel_rfl) (by kernel_rfl) (fun _ _ _ h => h) (Or.inl ⟨by rfl, ?hy6⟩) hSW ?rest6
      case hy6 =>
        intro W hW
        obtain ⟨h1, h2, h3⟩ := hW
        go_simp
        exact rfl
      simp only [Act.put]
      refine but_take (f := 12) (i := 7) (v := ?v7) rfl (by kernel_rfl) (by kernel_rfl) (by kernel_rfl) (by kernel_rfl) (by kernel_rfl) (fun _ _ _ h => h) (Or.inl ⟨by rfl, ?hy7⟩) hSW ?rest7
      case hy7 =>
        intro W hW
        obtain ⟨h1, h2, h3⟩ := hW
        go_simp
        exact rfl
      simp only [Act.put]
      refine but_run (i := 2) (by kernel_rfl) rfl (by rfl) ?_
      simp only [List.getElem_toArray, List.getElem_cons_succ, List.getElem_cons_zero]
      intro K HK
      go_wp2
      refine HK.out _ (wr.drew.alloc (.cells #[] 5)) (fun _ => hSW.on (bal1 _ _)) ?_
      clear HK
      refine but_run (i := 8) (by kernel_rfl) rfl (by rfl) ?_
      simp only [List.getElem_toArray, List.getElem_cons_succ, List.getElem_cons_zero]
      intro K HK
      refine oper_appV _ (by rfl) (.tmp 20) (.tmp 25) 22 5 1 1 (.int .u8 0) (by rfl) Try.underlying22 (by kernel_rfl) rfl (by omega) (by omega) wr.heap.size 0 _ [] (by rfl) (row_lit wr.drew 5 1) A2 (d.secs[k]).length d2 (bv d.secs[k]) (by rfl) BL.out AT.out (bv_one _) (by omega) HZ1.out ?_
      intro v6 w6 o6' g6' _ _
      obtain ⟨b6, o6, A6, c6, rfl⟩ := inner_app wr _ _ o6' g6'
      have hS6 := hSV.on b6
      refine HK.out _ _ (fun _ => hS6) ?_
      clear HK
      have B6 := Lib.hid b6
      have O6 := Lib.hid o6
      clear o6 o6' g6' b6
      simp only [Act.put, List.setIfInBounds_toArray, List.set_cons_zero, List.set_cons_succ]
      refine but_run (i := 9) (by kernel_rfl) rfl (by rfl) ?_
      simp only [List.getElem_toArray, List.getElem_cons_succ, List.getElem_cons_zero]
      intro K HK
      go_wp2
      have hS7 := hS6.on (bal1 w6 (.cells #[.slice A6 (d.secs[k]).length c6] 22))
      refine HK.out _ _ (fun _ => hS7) ?_
      clear HK
      have hz6 := B6.out.size
      refine but_run (i := 10) (by kernel_rfl) rfl (by rfl) ?_
      simp only [List.getElem_toArray, List.getElem_cons_succ, List.getElem_cons_zero]
      intro K HK
      refine oper_appV _ (by rfl) (.tmp 19) (.tmp 27) 24 22 1 24 (.slice none 0 0) (by rfl) Try.underlying24 (by kernel_rfl) rfl (by omega) (by omega) (w.heap.size + 3) k _ xs (by rfl) (row_on (row_on HR.out B6.out) (bal1 _ _)) _ 1 1 [.slice A6 (d.secs[k]).length c6] (by rfl) rfl (At.lit1 _ _ _) (by simp [Value.oneCell']) (by omega) (by simp; omega) ?_
      intro v8 w8 o8 g8 n8 at8
      have h8 := box_grown (box_on (box_on Q2.out B6.out) (bal1 _ _)) g8 (row_ne HR.out (by omega))
      have K8 := Lib.hid (box_grown (box_on (box_on Q0.out B6.out) (bal1 _ _)) g8 (row_ne HR.out (by omega)))
      have L8 := Lib.hid (box_grown (box_on (box_on Q1.out B6.out) (bal1 _ _)) g8 (row_ne HR.out (by omega)))
      have hS8 := hS7.grown g8 (row_ne HR.out (by omega)) (row_ne HR.out (by omega)) (row_ne HR.out (by omega))
      refine HK.out _ _ (fun _ => hS8) ?_
      clear HK
      have O8 := Lib.hid o8
      have G8 := Lib.hid g8
      have AT8 := Lib.hid at8
      obtain ⟨gv, cv, rfl⟩ := row_shape o8 (by omega)
      obtain ⟨f0, f1, f2, f3, f4⟩ := box4 h8
      have H8 := Lib.hid h8
      clear h8 o8 g8 at8 n8
      simp only [Act.put, List.setIfInBounds_toArray, List.set_cons_zero, List.set_cons_succ]
      refine but_run (i := 11) (by kernel_rfl) rfl (by rfl) ?_
      simp only [List.getElem_toArray, List.getElem_cons_succ, List.getElem_cons_zero]
      intro K HK
      go_wp2
      refine HK.out _ _ (fun _ => hS8) ?_
      clear HK
      refine but_run (i := 12) (by kernel_rfl) rfl (by rfl) ?_
      simp only [List.getElem_toArray, List.getElem_cons_succ, List.getElem_cons_zero]
      intro K HK
      go_wp2
      refine HK.out _ _ (fun h => (h rfl).elim) ?_
      clear HK
      have B7 := Lib.hid (bstep B6.out (bal1 w6 (.cells #[.slice A6 (d.secs[k]).length c6] 22)))
      have HX := Lib.hid (own_grow HR.out HO.out B7.out (OwnsL.one ((O6.out.on (bal1 _ (.cells #[.slice A6 (d.secs[k]).length c6] 22))).lt)) G8.out AT8.out (by omega))
      have HB8 := Lib.hid (grown_below (bstep HB.out B7.out) G8.out (row_on HR.out B7.out) (by omega))
      have NEW : Hid (SecIn w d (.cells #[.slice (some ⟨b, off, none⟩) d.secs.length d0, .slice A1 d.cache.length d1, .int .i64 d.fuse, .bool d.down] 27) (.cells #[.slice none 0 0, .slice none 0 0, .int .i64 0, .bool false] 27) (k + 1) (w8.setCell ⟨w.heap.size + 1 + 1, 0, none⟩ (.slice (some ⟨gv, 0, none⟩) (k + 1) cv))) := by
        refine Lib.hid ⟨_, _, row_keep O8.out (fun g hg => Below.heap_setCell _ _ _ _ (by have := (row_lt O8.out g hg).2; simp; omega)), ?_, box_far K8.out (by omega), box_far L8.out (by omega), box_set H8.out, HB8.out.setCell (p := ⟨w.heap.size + 1 + 1, 0, none⟩) (by simp; omega) _⟩
        rw [List.take_succ_eq_append_getElem hlt, List.map_append]
        exact HX.out.keep (fun b hb _ => Below.heap_setCell _ _ _ _ (by have := hb.1; simp; omega))
      clear HX HB8 O8 G8 AT8 H8 K8 L8 HR HO Q0 Q1 Q2 HB B7 B6 O6
      refine but_done (by kernel_rfl) ?_
      go_wp2
      go_roundw
      case rel => exact ⟨k + 1, by omega, by go_num, NEW⟩
      case measure => simp [intOf]; omega
    · have e : k = d.secs.length := by omega
      subst e
      rw [List.take_of_length_le (Nat.le_refl _)] at ho
      have hzw : w.heap.size + 1 + 1 < wr.heap.size := (Array.getElem?_eq_some_iff.1 q2).1
      obtain ⟨Au, cu, rfl⟩ := row_form hr
      obtain ⟨B, hB⟩ : ∃ B, wr.heap.size = B := ⟨_, rfl⟩
      have REL2 : Hid (CacheIn w d (.cells #[.slice A0 d.secs.length d0, .slice A1 d.cache.length d1, .int .i64 d.fuse, .bool d.down] 27) (.cells #[.slice none 0 0, .slice none 0 0, .int .i64 0, .bool false] 27) (.slice Au d.secs.length cu) B 0 wr) := by
        rw [← hB]
        exact Lib.hid ⟨.slice none 0 0, [], row_nil _ _ _ _, by simpa using OwnsL.nil _ _, q0, q1, q2, (row_owns hr ho (by simp)).lt, Nat.le_refl _, hb⟩
      have HB1 : w.heap.size + 3 ≤ B := by omega
      clear x1 x2 x3 x4 REL HC hr ho q0 q1 q2 hb hk
      go_wp2
      clear x0 hB hzw hlt
      go_loopw [5] (fun i wt => ∃ k : Nat, k ≤ d.cache.length ∧ i = .int .i64 k ∧ Hid (CacheIn w d (.cells #[.slice A0 d.secs.length d0, .slice A1 d.cache.length d1, .int .i64 d.fuse, .bool d.down] 27) (.cells #[.slice none 0 0, .slice none 0 0, .int .i64 0, .bool false] 27) (.slice Au d.secs.length cu) B k wt)) (fun i _ => d.cache.length - (intOf i).toNat)
      case atStart => exact ⟨0, Nat.zero_le _, rfl, REL2⟩
      case round =>
        clear REL2
        obtain ⟨k, hk, rfl, HC⟩ := hrel
        obtain ⟨v, ys, hr, ho, q0, q1, q2, hsec, hBw, hb⟩ := HC.out
        obtain ⟨x0, x1, x2, x3, x4⟩ := box4 q0
        obtain ⟨Av, cv, rfl⟩ := row_form hr
        by_cases hlt : k < d.cache.length
        · obtain ⟨b, off, rfl, hb0, _⟩ := V1.out.wr hlt
          obtain ⟨b', off', hbe, hbb, hc⟩ := (V1.out.on hb).wr hlt
          cases hbe
          obtain ⟨c0, A2, d2, c1, _, _, r1⟩ := hc k hlt
          obtain ⟨z0, z1, z2, z3, z4⟩ := box4 q2
          have i1 : (k : Int) < (d.cache.length : Int) := by omega
          have i2 : (0 : Int) ≤ (k : Int) := by omega
          have hlk := S4.out d.cache[k] (List.getElem_mem _)
          have n1 : ¬ w.heap.size + 1 + 1 = w.heap.size := by omega
          have n2 : ¬ w.heap.size = w.heap.size + 1 + 1 := by omega
          have Q0 := Lib.hid q0
          have Q1 := Lib.hid q1
          have Q2 := Lib.hid q2
          have HR := Lib.hid hr
          have HO := Lib.hid ho
          have HB := Lib.hid hb
          have HS := Lib.hid hsec
          have R1 := Lib.hid r1
          have BL : Hid ((bv (d.cache[k]).2).length = (d.cache[k]).2.length * 1) := Lib.hid (by rw [bv_length]; omega)
          have AT := Lib.hid (Rd.at (R1.out.on ((Below.refl _ _).drew.alloc (Nat.le_refl _) (.cells #[] 5))))
          have HZ1 : Hid (wr.heap.size ≤ (wr.drew.alloc (.cells #[] 5)).heap.size) := Lib.hid (Nat.le_of_lt (by rw [World.size_alloc]; exact Nat.lt_succ_self _))
          clear hc q0 q1 q2 hr ho hb r1 HC hsec
          go_wp2
          have hSW : SC2 w.heap.size b (off + k * 2) (off + k * 2 + 1) (.slice (some ⟨b, off, none⟩) d.cache.length d1) (.int .i64 (d.cache[k]).1) (.slice A2 (d.cache[k]).2.length d2) (w.heap.size + 1 + 1) (.slice Av k cv) wr.drew := ⟨x1, c0, c1, z1⟩
          have hSV : SC2 w.heap.size b (off + k * 2) (off + k * 2 + 1) (.slice (some ⟨b, off, none⟩) d.cache.length d1) (.int .i64 (d.cache[k]).1) (.slice A2 (d.cache[k]).2.length d2) (w.heap.size + 1 + 1) (.slice Av k cv) wr := ⟨x1, c0, c1, z1⟩
          refine but_begin (f := 20) (S := SC2 w.heap.size b (off + k * 2) (off + k * 2 + 1) (.slice (some ⟨b, off, none⟩) d.cache.length d1) (.int .i64 (d.cache[k]).1) (.slice A2 (d.cache[k]).2.length d2) (w.heap.size + 1 + 1) (.slice Av k cv)) (by kernel_rfl) ?_
          refine but_take (f := 20) (i := 0) (v := ?z0) rfl (by kernel_rfl) (by kernel_rfl) (by kernel_rfl) (by kernel_rfl) (by kernel_rfl) (fun _ _ _ h => h) (Or.inl ⟨by rfl, ?hz0⟩) hSW ?rez0
          case hz0 =>
            intro W hW
            obtain ⟨h1, h2, h3, h4⟩ := hW
            go_simp
            exact rfl
          simp only [Act.put, List.setIfInBounds_toArray]
          refine but_take (f := 20) (i := 1) (v := ?z1) rfl (by kernel_rfl) (by kernel_rfl) (by kernel_rfl) (by kernel_rfl) (by kernel_rfl) (fun _ _ _ h => h) (Or.inl ⟨by rfl, ?hz1⟩) hSW ?rez1
          case hz1 =>
            intro W hW
            obtain ⟨h1, h2, h3, h4⟩ := hW
            go_simp
            exact rfl
          simp only [Act.put]
          refine but_take (f := 20) (i := 2) (v := ?z2) rfl (by kernel_rfl) (by kernel_rfl) (by kernel_rfl) (by kernel_rfl) (by kernel_rfl) (fun _ _ _ h => h) (Or.inl ⟨by rfl, ?hz2⟩) hSW ?rez2
          case hz2 =>
            intro W hW
            obtain ⟨h1, h2, h3, h4⟩ := hW
            go_simp
            exact rfl
          simp only [Act.put]
          refine but_take (f := 20) (i := 3) (v := ?z3) rfl (by kernel_rfl) (by kernel_rfl) (by kernel_rfl) (by kernel_rfl) (by kernel_rfl) (fun _ _ _ h => h) (Or.inl ⟨by rfl, ?hz3⟩) hSW ?rez3
          case hz3 =>
            intro W hW
            obtain ⟨h1, h2, h3, h4⟩ := hW
            go_simp
            exact rfl
          simp only [Act.put]
          refine but_take (f := 20) (i := 4) (v := ?z4) rfl (by kernel_rfl) (by kernel_rfl) (by kernel_rfl) (by kernel_rfl) (by kernel_rfl) (fun _ _ _ h => h) (Or.inl ⟨by rfl, ?hz4⟩) hSW ?rez4
          case hz4 =>
            intro W hW
            obtain ⟨h1, h2, h3, h4⟩ := hW
            go_simp
            exact rfl
          simp only [Act.put]
          refine but_take (f := 20) (i := 5) (v := ?z5) rfl (by kernel_rfl) (by kernel_rfl) (by kernel_rfl) (by kernel_rfl) (by kernel_rfl) (fun _ _ _ h => h) (Or.inl ⟨by rfl, ?hz5⟩) hSW ?rez5
          case hz5 =>
            intro W hW
            obtain ⟨h1, h2, h3, h4⟩ := hW
            go_simp
            exact rfl
          simp only [Act.put]
          refine but_take (f := 20) (i := 6) (v := ?z6) rfl (by kernel_rfl) (by kernel_rfl) (by kernel_rfl) (by kernel_rfl) (by kernel_rfl) (fun _ _ _ h => h) (Or.inl ⟨by rfl, ?hz6⟩) hSW ?rez6
          case hz6 =>
            intro W hW
            obtain ⟨h1, h2, h3, h4⟩ := hW
            go_simp
            exact rfl
          simp only [Act.put]
          refine but_take (f := 20) (i := 7) (v := ?z7) rfl (by kernel_rfl) (by kernel_rfl) (by kernel_rfl) (by kernel_rfl) (by kernel_rfl) (fun _ _ _ h => h) (Or.inl ⟨by rfl, ?hz7⟩) hSW ?rez7
          case hz7 =>
            intro W hW
            obtain ⟨h1, h2, h3, h4⟩ := hW
            go_simp
            exact rfl
          simp only [Act.put]
          refine but_take (f := 20) (i := 9) (v := ?z9) rfl (by kernel_rfl) (by kernel_rfl) (by kernel_rfl) (by kernel_rfl) (by kernel_rfl) (fun _ _ _ h => h) (Or.inl ⟨by rfl, ?hz9⟩) hSW ?rez9
          case hz9 =>
            intro W hW
            obtain ⟨h1, h2, h3, h4⟩ := hW
            go_simp
            exact rfl
          simp only [Act.put]
          refine but_take (f := 20) (i := 10) (v := ?z10) rfl (by kernel_rfl) (by kernel_rfl) (by kernel_rfl) (by kernel_rfl) (by kernel_rfl) (fun _ _ _ h => h) (Or.inl ⟨by rfl, ?hz10⟩) hSW ?rez10
          case hz10 =>
            intro W hW
            obtain ⟨h1, h2, h3, h4⟩ := hW
            go_simp
            exact rfl
          simp only [Act.put]
          refine but_take (f := 20) (i := 11) (v := ?z11) rfl (by kernel_rfl) (by kernel_rfl) (by kernel_rfl) (by kernel_rfl) (by kernel_rfl) (fun _ _ _ h => h) (Or.inl ⟨by rfl, ?hz11⟩) hSW ?rez11
          case hz11 =>
            intro W hW
            obtain ⟨h1, h2, h3, h4⟩ := hW
            go_simp
            exact rfl
          simp only [Act.put]
          refine but_take (f := 20) (i := 12) (v := ?z12) rfl (by kernel_rfl) (by kernel_rfl) (by kernel_rfl) (by kernel_rfl) (by kernel_rfl) (fun _ _ _ h => h) (Or.inl ⟨by rfl, ?hz12⟩) hSW ?rez12
          case hz12 =>
            intro W hW
            obtain ⟨h1, h2, h3, h4⟩ := hW
            go_simp
            exact rfl
          simp only [Act.put]
          refine but_take (f := 20) (i := 13) (v := ?z13) rfl (by kernel_rfl) (by kernel_rfl) (by kernel_rfl) (by kernel_rfl) (by kernel_rfl) (fun _ _ _ h => h) (Or.inl ⟨by rfl, ?hz13⟩) hSW ?rez13
          case hz13 =>
            intro W hW
            obtain ⟨h1, h2, h3, h4⟩ := hW
            go_simp
            exact rfl
          simp only [Act.put]
          refine but_take (f := 20) (i := 14) (v := ?z14) rfl (by kernel_rfl) (by kernel_rfl) (by kernel_rfl) (by kernel_rfl) (by kernel_rfl) (fun _ _ _ h => h) (Or.inl ⟨by rfl, ?hz14⟩) hSW ?rez14
          case hz14 =>
            intro W hW
            obtain ⟨h1, h2, h3, h4⟩ := hW
            go_simp
            exact rfl
          simp only [Act.put]
          refine but_run (i := 8) (by kernel_rfl) rfl (by rfl) ?_
          simp only [List.getElem_toArray, List.getElem_cons_succ, List.getElem_cons_zero]
          intro K HK
          go_wp2
          refine HK.out _ (wr.drew.alloc (.cells #[] 5)) (fun _ => hSW.on (bal1 _ _)) ?_
          clear HK
          refine but_run (i := 15) (by kernel_rfl) rfl (by rfl) ?_
          simp only [List.getElem_toArray, List.getElem_cons_succ, List.getElem_cons_zero]
          intro K HK
          refine oper_appV _ (by rfl) (.tmp 45) (.tmp 51) 22 5 1 1 (.int .u8 0) (by rfl) Try.underlying22 (by kernel_rfl) rfl (by omega) (by omega) wr.heap.size 0 _ [] (by rfl) (row_lit wr.drew 5 1) A2 (d.cache[k]).2.length d2 (bv (d.cache[k]).2) (by rfl) BL.out AT.out (bv_one _) (by omega) HZ1.out ?_
          intro v6 w6 o6' g6' _ _
          obtain ⟨b6, o6, A6, c6, rfl⟩ := inner_app wr _ _ o6' g6'
          have hS6 := hSV.on b6
          refine HK.out _ _ (fun _ => hS6) ?_
          clear HK
          have B6 := Lib.hid b6
          have O6 := Lib.hid o6
          clear o6 o6' g6' b6
          simp only [Act.put, List.setIfInBounds_toArray, List.set_cons_zero, List.set_cons_succ]
          refine but_run (i := 16) (by kernel_rfl) rfl (by rfl) ?_
          simp only [List.getElem_toArray, List.getElem_cons_succ, List.getElem_cons_zero]
          intro K HK
          go_wp2
          refine HK.out _ _ (fun _ => hS6) ?_
          clear HK
          refine but_run (i := 17) (by kernel_rfl) rfl (by rfl) ?_
          simp only [List.getElem_toArray, List.getElem_cons_succ, List.getElem_cons_zero]
          intro K HK
          go_wp2
          have hS7 := hS6.on (bal1 w6 (.cells #[.int .i64 (d.cache[k]).1, .slice A6 (d.cache[k]).2.length c6] 78))
          refine HK.out _ _ (fun _ => hS7) ?_
          clear HK
          have hz6 := B6.out.size
          refine but_run (i := 18) (by kernel_rfl) rfl (by rfl) ?_
          simp only [List.getElem_toArray, List.getElem_cons_succ, List.getElem_cons_zero]
          intro K HK
          refine oper_appV _ (by rfl) (.tmp 38) (.tmp 54) 25 78 2 32 (.agg #[.int .i64 0, .slice none 0 0]) (by rfl) Try.underlying25 (by kernel_rfl) rfl (by omega) (by omega) B k _ ys (by rfl) (row_on (row_on HR.out B6.out) (bal1 _ _)) _ 1 1 [.int .i64 (d.cache[k]).1, .slice A6 (d.cache[k]).2.length c6] (by rfl) rfl (At.lit2 _ _ _ _) (by simp [Value.oneCell']) (by omega) (by simp; omega) ?_
          intro v8 w8 o8 g8 n8 at8
          have h8 := box_grown (box_on (box_on Q2.out B6.out) (bal1 _ _)) g8 (row_ne HR.out (by omega))
          have K8 := Lib.hid (box_grown (box_on (box_on Q0.out B6.out) (bal1 _ _)) g8 (row_ne HR.out (by omega)))
          have L8 := Lib.hid (box_grown (box_on (box_on Q1.out B6.out) (bal1 _ _)) g8 (row_ne HR.out (by omega)))
          have hS8 := hS7.grown g8 (row_ne HR.out (by omega)) (row_ne HR.out (by omega)) (row_ne HR.out (by omega))
          refine HK.out _ _ (fun _ => hS8) ?_
          clear HK
          have O8 := Lib.hid o8
          have G8 := Lib.hid g8
          have AT8 := Lib.hid at8
          obtain ⟨gv, cg, rfl⟩ := row_shape o8 (by omega)
          obtain ⟨f0, f1, f2, f3, f4⟩ := box4 h8
          have H8 := Lib.hid h8
          clear h8 o8 g8 at8 n8
          simp only [Act.put, List.setIfInBounds_toArray, List.set_cons_zero, List.set_cons_succ]
          refine but_run (i := 19) (by kernel_rfl) rfl (by rfl) ?_
          simp only [List.getElem_toArray, List.getElem_cons_succ, List.getElem_cons_zero]
          intro K HK
          go_wp2
          refine HK.out _ _ (fun _ => hS8) ?_
          clear HK
          refine but_run (i := 20) (by kernel_rfl) rfl (by rfl) ?_
          simp only [List.getElem_toArray, List.getElem_cons_succ, List.getElem_cons_zero]
          intro K HK
          go_wp2
          refine HK.out _ _ (fun h => (h rfl).elim) ?_
          clear HK
          have B7 := Lib.hid (bstep B6.out (bal1 w6 (.cells #[.int .i64 (d.cache[k]).1, .slice A6 (d.cache[k]).2.length c6] 78)))
          have HX := Lib.hid (own_grow HR.out HO.out B7.out (OwnsL.two (S := fun _ => False) (.lit _ (.int .i64 (d.cache[k]).1)) ((O6.out.on (bal1 _ (.cells #[.int .i64 (d.cache[k]).1, .slice A6 (d.cache[k]).2.length c6] 78))).lt) (fun _ h => h.elim) (fun _ h => h) (fun _ h => h.elim)) G8.out AT8.out hBw)
          have HB8 := Lib.hid (grown_below (bstep HB.out B7.out) G8.out (row_on HR.out B7.out) (by omega))
          have HS8 := Lib.hid ((HS.out.on B7.out).keep (w' := w8) (fun b hb hl => G8.out.block b hl (fun e => by have := (row_lt (row_on HR.out B7.out) b e.symm).2; have := hb.2; omega)))
          have hz7 := B7.out.size
          have hz8 := G8.out.size
          have NEW : Hid (CacheIn w d (.cells #[.slice A0 d.secs.length d0, .slice (some ⟨b, off, none⟩) d.cache.length d1, .int .i64 d.fuse, .bool d.down] 27) (.cells #[.slice none 0 0, .slice none 0 0, .int .i64 0, .bool false] 27) (.slice Au d.secs.length cu) B (k + 1) (w8.setCell ⟨w.heap.size + 1 + 1, 1, none⟩ (.slice (some ⟨gv, 0, none⟩) (k + 1) cg))) := by
            refine Lib.hid ⟨_, _, row_keep O8.out (fun g hg => Below.heap_setCell _ _ _ _ (by have := (row_lt O8.out g hg).2; simp; omega)), ?_, box_far K8.out (by omega), box_far L8.out (by omega), box_set H8.out, HS8.out.keep (fun b hb _ => Below.heap_setCell _ _ _ _ (by have := hb.1; simp; omega)), by rw [World.size_setCell]; omega, HB8.out.setCell (p := ⟨w.heap.size + 1 + 1, 1, none⟩) (by simp; omega) _⟩
            rw [List.take_succ_eq_append_getElem hlt, List.flatMap_append]
            simp only [List.flatMap_cons, List.flatMap_nil, List.append_nil]
            exact HX.out.keep (fun b hb _ => Below.heap_setCell _ _ _ _ (by have := hb.1; simp; omega))
          clear HX HB8 O8 G8 AT8 H8 K8 L8 HR HO Q0 Q1 Q2 HB B7 B6 O6 HS HS8 hz7 hz8
          refine but_done (by kernel_rfl) ?_
          go_wp2
          go_roundw
          case rel => exact ⟨k + 1, by omega, by go_num, NEW⟩
          case measure => simp [intOf]; omega
        · have e : k = d.cache.length := by omega
          subst e
          rw [List.take_of_length_le (Nat.le_refl _)] at ho
          have hcch : Owns wr (fun b => B ≤ b) (.slice Av d.cache.length cv) (cacheD d.cache) := row_owns hr ho (cache_len _)
          have OL := Lib.hid (OwnsL.two (U := fun b => w.heap.size + 3 ≤ b) hsec hcch (fun b hb => hb.1) (fun b hb => by omega) (fun b hb hb' => by have := hb.2; omega))
          have HBB := Lib.hid hb
          obtain ⟨y0, y1, y2, y3, y4⟩ := box4 q1
          obtain ⟨z0, z1, z2, z3, z4⟩ := box4 q2
          have m1 : Mid w.heap.size (w.heap.size + 3) (w.heap.size + 1) := .mk (by omega) (by omega)
          have n1 : ¬ w.heap.size + 1 = w.heap.size + 1 + 1 := by omega
          clear ho hr q0 q1 q2 hb hcch HC hsec
          go_wp2
          refine bodyPost_ret (v := .agg #[.slice Au d.secs.length cu, .slice Av d.cache.length cv, .int .i64 d.fuse, .bool d.down]) (by simp [results, Try.results67, go_sem, *]) rfl ⟨_, rfl, ⟨_, _, rfl, OL.out.past (a := w.heap.size) (b := w.heap.size + 3) ?_ (by omega)⟩, bpast (b := w.heap.size + 3) HBB.out ?_⟩
          all_goals exact ((((Only.refl _ _).setCell m1 _).setCell m1 _).setCell m1 _).setCell m1 _
end Go.Proofs.Ytmeiobpeacdfjaa
