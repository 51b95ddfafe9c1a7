/- Contracts for slices.Clone at sets of keys, impl.copyNode and spec.l5Copy: a new node in new memory that reads alike. Conditions: at most 1100000 sets and keys. -/
import Derived.Test.YtnmoikgobbcifaaNodeSKeys
import Derived.Test.YtnmoikgobbcifaaKSetIMerge
import Derived.Test.YtnmoikgobbcifaaGen
import Derived.Test.YtnmoikgobbcifaaLast
namespace Go.Proofs.Ytnmoikgobbcifaa
open Go.RowKit
set_option maxRecDepth 100000
set_option linter.unusedSimpArgs false
set_option linter.unusedVariables false

theorem cloneSets_any (A : Option Addr) (n c : Nat) (xs : List Value) (w : World) (hA : At w A xs) (hl : xs.length = n * 1) (h1 : ∀ u ∈ xs, u.oneCell' = true) (hn : n ≤ 1100000) : Calls Try.prog 105 #[.slice A n c] w (NewRow w 37 1 n xs) := by
  rcases A with _ | ad
  · have h0 : xs = [] := by
      rcases hA with h | ⟨b, off, h, _⟩
      · exact h
      · cases h
    subst h0
    have h2 : n = 0 := by simpa using hl.symm
    subst h2
    have hq := run_eqnil (P := Try.prog) w 64 37 none 0 c Try.underlying64
    go_enter Try.func105, Try.ntmps105
    go_wp2
    go_ret
    exact ⟨_, rfl, row_nil _ _ _ _, Below.refl _ _⟩
  · have hA0 := hA.on (bal1 w (.cells #[] 37))
    have ho0 := row_lit w 37 1
    have HB := Lib.hid (bal1 w (.cells #[] 37))
    have hq := run_eqnil (P := Try.prog) w 64 37 (some ad) n c Try.underlying64
    have HL := Lib.hid hl
    have H1 := Lib.hid h1
    clear hA hl h1
    go_enter Try.func105, Try.ntmps105
    go_wp2_with (at_builtin; refine wpList_appV _ rfl (.tmp 5) (.tmp 6) 64 37 1 24 (.slice none 0 0) rfl Try.underlying64 (by kernel_rfl) rfl (by omega) (by omega) w.heap.size 0 _ [] rfl ho0 (some ad) n c xs rfl HL.out hA0 H1.out (by omega) (by simp) ?_; intro v1 w1 o1 g1 _ _; have b1 := Lib.hid (grown_below HB.out g1 ho0 (Nat.le_refl _)); clear g1 ho0 hA0)
    rw [List.nil_append, Nat.zero_add] at o1
    go_ret
    exact ⟨v1, rfl, o1, b1.out⟩
set_option maxHeartbeats 2000000 in
theorem copyNode_any (v : Value) (ns : List (List KeyD)) (w : World) (hv : Reads w w.heap.size v (setsD ns)) (hs : SmallN ns) : Calls Try.prog 73 #[.agg #[v]] w (NewN w ns) := by
  obtain ⟨A0, d0, rfl, _, _⟩ := hv.lenN
  have HS := Lib.hid hs
  have s1 := hs.1
  obtain ⟨xs, hat, hrs, hxl⟩ := hv.cells
  have X0 := Lib.hid hrs
  have HXL := Lib.hid hxl
  have ones : ∀ u ∈ xs, u.oneCell' = true := hrs.ones (fun c hc => by simp at hc; obtain ⟨l, _, rfl⟩ := hc; rfl)
  obtain ⟨q0, q1⟩ := al2 w (.cells #[.slice A0 ns.length d0] 66) (.cells #[.slice none 0 0] 66)
  have Q0 := Lib.hid q0
  have Q1 := Lib.hid q1
  clear hv hs hrs hxl q0 q1
  go_enter Try.func73, Try.ntmps73
  go_wp2_with fail
  refine (cloneSets_any A0 ns.length d0 xs _ (hat.on (bal2 _ _ _)) HXL.out ones s1).mono ?_
  rintro e w1 ⟨u, rfl, ho1, b1⟩
  have hb1 := bstep (bal2 _ _ _) b1
  have q0 := box_on Q0.out b1
  have q1 := box_on Q1.out b1
  have hz := b1.size
  simp only [World.size_alloc] at hz ho1
  obtain ⟨Au, cu, rfl⟩ := row_form ho1
  have HO1 := Lib.hid ho1
  have P0 := Lib.hid q0
  have P1 := Lib.hid q1
  have HB1 := Lib.hid hb1
  clear b1 ones hat q0 q1 ho1 hb1
  have REL1 : Hid (CopyIn w (w.heap.size + 1 + 1) w.heap.size (.cells #[.slice A0 ns.length d0] 66) (.slice Au ns.length cu) 37 1 ns.length 0 xs (ns.map keysD) w1) :=
    Lib.hid ⟨xs, HO1.out, by simpa using OwnsL.nil _ _, fun _ _ => rfl, P0.out, HB1.out⟩
  go_wp2
  go_loopw [11] (fun i wr => ∃ k : Nat, k ≤ ns.length ∧ i = .int .i64 k ∧ Hid (CopyIn w (w.heap.size + 1 + 1) w.heap.size (.cells #[.slice A0 ns.length d0] 66) (.slice Au ns.length cu) 37 1 ns.length k xs (ns.map keysD) wr) ∧ Hid (wr.heap[w.heap.size + 1]? = some (.cells #[.slice none 0 0] 66))) (fun i _ => ns.length - (intOf i).toNat)
  case atStart => exact ⟨0, Nat.zero_le _, rfl, REL1, P1⟩
  case round =>
    clear hz REL1
    obtain ⟨k, hk, rfl, HC, HP⟩ := hrel
    obtain ⟨zs, ho, hown, htl, hbx, hb⟩ := HC.out
    by_cases hlt : k < ns.length
    · have hxk : k < xs.length := by rw [HXL.out]; omega
      rcases row_cases ho with ⟨_, h, _⟩ | ⟨g, cap, hu, hbg, hR, hn, hc, hl⟩
      · omega
      · cases hu
        have hzk : k < zs.length := by omega
        have ez : zs[k] = xs[k] := by
          have := htl k (Nat.le_refl _)
          rw [List.getElem?_eq_getElem hzk, List.getElem?_eq_getElem hxk] at this
          exact Option.some.inj this
        have c1 := hR.cell hzk
        rw [ez] at c1
        have rk := (X0.out.on hb).2 k hxk (by simpa using hlt)
        rw [List.getElem_map] at rk
        obtain ⟨Ak, dk, ek, _, _⟩ := rk.lenN
        rw [ek] at c1 rk
        have hg := hR.lt
        have hlk := HS.out.at hlt
        have i1 : (k : Int) < (ns.length : Int) := by omega
        have i2 : (0 : Int) ≤ (k : Int) := by omega
        have hne2 : ¬ w.heap.size = g := by omega
        have RK := Lib.hid rk
        have HOWN := Lib.hid hown
        have HO := Lib.hid ho
        have HT := Lib.hid htl
        have HR := Lib.hid hR
        have HBX := Lib.hid hbx
        have HZ := Lib.hid hzk
        have HBB := Lib.hid hb
        clear rk ek ez hown ho htl hR hbx hb hl hxk hzk HC
        go_wp2_with fail
        refine (cloneK_any _ ns[k] _ RK.out (by omega)).mono ?_
        rintro e w2 ⟨x, rfl, ox, b2⟩
        have R2 := HR.out.keep (b2.block g hg)
        have cc := R2.cell HZ.out
        have ff := R2.frozen k
        obtain ⟨Ax, dx, rfl, _, _⟩ := ox.shape
        have NEW := Lib.hid (CopyIn.step (w := w) HO.out HOWN.out HT.out HBX.out HBB.out b2 ox.owns hg (by omega) hne2 (by omega) hlt)
        have HP2 := Lib.hid (box_far (j := k) (u := .slice Ax (ns[k]).length dx) (box_on HP.out b2) (show w.heap.size + 1 ≠ g by omega))
        clear ox b2 R2 c1
        go_wp2
        go_roundw
        case rel =>
          refine ⟨k + 1, by omega, by go_num, ?_, HP2⟩
          have h := NEW.out
          exact Lib.hid (h (by simpa using hlt) (by simp))
        case measure => simp [intOf]; omega
    · have e : k = ns.length := by omega
      have hsec : Owns wr (fun b => w.heap.size + 1 + 1 ≤ b) (.slice Au ns.length cu) (setsD ns) := by
        subst e
        have h1 : zs.length = ns.length * 1 := ho.1
        rw [List.take_of_length_le (by omega), List.take_of_length_le (by simp)] at hown
        exact row_owns ho hown (by simp)
      have HSEC := Lib.hid hsec
      have HBB := Lib.hid hb
      obtain ⟨x0, x1⟩ := box1N HP.out
      clear hsec hown ho htl hbx hb HC
      go_wp2
      refine bodyPost_ret (v := .agg #[.slice Au ns.length cu]) (by simp [results, Try.results73, go_sem, x0, x1]) rfl ⟨_, rfl, ?_, ?_⟩
      · exact (HSEC.out.setFar (by omega)).mono (fun b hb => by omega)
      · exact HBB.out.setCell (p := ⟨w.heap.size + 1, 0, none⟩) (show w.heap.size ≤ w.heap.size + 1 by omega) _
/-- What the region of spec.l5Copy reads: two boxes and an element. -/
def NC1 (p1 b1 : Nat) (o1 : Nat) (v1 e1 : Value) (p3 : Nat) (v3 : Value) (W : World) : Prop := W.cell? ⟨p1, 0, none⟩ = some v1 ∧ W.cell? ⟨b1, o1, none⟩ = some e1 ∧ W.cell? ⟨p3, 0, none⟩ = some v3
theorem NC1.on {p1 b1 o1 : Nat} {v1 e1 : Value} {p3 : Nat} {v3 : Value} {wr W : World} (h : NC1 p1 b1 o1 v1 e1 p3 v3 wr) (hb : Below wr.heap.size wr W) : NC1 p1 b1 o1 v1 e1 p3 v3 W :=
  have k : ∀ (b o : Nat) (v : Value), wr.cell? ⟨b, o, none⟩ = some v → W.cell? ⟨b, o, none⟩ = some v := fun b o _ hc => (World.cell?_of_block (a := ⟨b, o, none⟩) (hb.block b (World.block_lt_of_cell? wr _ hc))).trans hc
  ⟨k _ _ _ h.1, k _ _ _ h.2.1, k _ _ _ h.2.2⟩
theorem NC1.grown {p1 b1 o1 : Nat} {v1 e1 : Value} {p3 : Nat} {v3 : Value} {wr W : World} {g : Option Nat} (h : NC1 p1 b1 o1 v1 e1 p3 v3 wr) (hg : wr.grownBy W g) (h1 : g ≠ some p1) (h2 : g ≠ some b1) (h3 : g ≠ some p3) : NC1 p1 b1 o1 v1 e1 p3 v3 W :=
  have k : ∀ (b o : Nat) (v : Value), g ≠ some b → wr.cell? ⟨b, o, none⟩ = some v → W.cell? ⟨b, o, none⟩ = some v := fun b o _ hn hc => (World.cell?_of_block (a := ⟨b, o, none⟩) (hg.block b (World.block_lt_of_cell? wr _ hc) (fun e => hn e.symm))).trans hc
  ⟨k _ _ _ h1 h.1, k _ _ _ h2 h.2.1, k _ _ _ h3 h.2.2⟩
theorem operAppN {P : Program} {o : Oper} {a : Act} {Kn : Act → World → Prop} {Q : Exit → Act → World → Prop} (w : World) (hgd : o.guard = none) (s x : Operand) (t e z by_ : Nat) (zero : Value)
    (hop : o.op = .call { callee := .builtin .append, args := #[s, x], argTypes := #[t, t] }) (ht : P.underlying t = some (.slice e)) (hinfo : (P.info? e).map (fun i => (i.zero, i.size, i.bytes)) = some (some zero, z, by_)) (hzc : zero.cells.size = z) (hz : 0 < z) (hby : by_ ≤ 1024)
    (base n : Nat) (v : Value) (xs : List Value) (hs : a.eval s = v) (hown : w.ownsRow base e z v n xs) (A : Option Addr) (m c : Nat) (news : List Value) (hx : a.eval x = .slice A m c) (hl : news.length = m * z) (hA : At w A news) (h1 : ∀ u ∈ news, u.oneCell' = true) (hlen : n + m ≤ 1073741824) (hbase : base ≤ w.heap.size)
    (h : ∀ v' w', w'.ownsRow base e z v' (n + m) (xs ++ news) → w.grownBy w' v.ownBlock → (v' = .slice none 0 0 ↔ v = .slice none 0 0 ∧ m = 0) → (v'.ownBlock = v.ownBlock ∨ v'.ownBlock = some w.heap.size) → Kn (a.put o.dst v') w') : Oper.wp P o a w Kn Q := by
  have h2 := step_appV (ops := #[]) (Q := Q) (E := True) w hgd s x t e z by_ zero hop ht hinfo hzc hz hby base n v xs hs hown A m c news hx hl hA h1 hlen hbase h
  rwa [if_pos (by simp [Region.wanted, hgd])] at h2
theorem inner_appK (wr w6 : World) {v6 : Value} (l : List KeyD) (o6 : w6.ownsRow wr.heap.size 29 5 v6 (0 + l.length) ([] ++ kvl l)) (g6 : (wr.drew.alloc (.cells #[] 29)).grownBy w6 (Value.slice (some ⟨wr.drew.heap.size, 0, none⟩) 0 0).ownBlock) : Below wr.heap.size wr w6 ∧ RowK w6 wr.heap.size v6 l ∧ ∃ A c, v6 = .slice A l.length c := by
  have o7 : RowK w6 wr.heap.size v6 l := by rw [Nat.zero_add, List.nil_append] at o6; exact o6
  refine ⟨?_, o7, by obtain ⟨A, c, h, _⟩ := o7.shape; exact ⟨A, c, h⟩⟩
  have h : Below wr.heap.size wr (wr.drew.alloc (.cells #[] 29)) := (Below.refl _ _).drew.alloc (Nat.le_refl _) _
  exact h.grown g6 h.size (fun k hk => by simp [Value.ownBlock] at hk; subst hk; exact Nat.le_refl _)
def SetsIn (w : World) (ns : List (List KeyD)) (bx1 bx2 : Obj) (k : Nat) (wr : World) : Prop :=
  ∃ u xs, wr.ownsRow (w.heap.size + 3) 37 1 u k xs ∧ OwnsL wr (Tof (w.heap.size + 3) u) xs ((ns.take k).map keysD) ∧ wr.heap[w.heap.size]? = some bx1 ∧ wr.heap[w.heap.size + 1]? = some bx2 ∧ wr.heap[w.heap.size + 1 + 1]? = some (.cells #[u] 66) ∧ Below w.heap.size w wr
set_option maxHeartbeats 4000000 in
theorem l5Copy_any (v : Value) (ns : List (List KeyD)) (w : World) (hv : Reads w w.heap.size v (setsD ns)) (hs : SmallN ns) : Calls Try.prog 96 #[.agg #[v]] w (NewN w ns) := by
  obtain ⟨A0, d0, rfl, _, _⟩ := hv.lenN
  have HS := Lib.hid hs
  have s1 := hs.1
  have V0 := Lib.hid hv
  obtain ⟨q0, q1, q2⟩ := al3 w (.cells #[.slice A0 ns.length d0] 66) (.cells #[.slice none 0 0] 66) (.cells #[.slice none 0 0] 66)
  have REL : Hid (SetsIn w ns (.cells #[.slice A0 ns.length d0] 66) (.cells #[.slice none 0 0] 66) 0 _) := Lib.hid ⟨.slice none 0 0, [], row_nil _ _ _ _, by simpa using OwnsL.nil _ _, q0, q1, q2, bal3 _ _ _ _⟩
  clear hv hs q0 q1 q2
  go_enter Try.func96, Try.ntmps96
  go_wp2
  go_loopw [4] (fun i wr => ∃ k : Nat, k ≤ ns.length ∧ i = .int .i64 k ∧ Hid (SetsIn w ns (.cells #[.slice A0 ns.length d0] 66) (.cells #[.slice none 0 0] 66) k wr)) (fun i _ => ns.length - (intOf i).toNat)
  case atStart => exact ⟨0, Nat.zero_le _, rfl, REL⟩
  case round =>
    clear REL
    obtain ⟨k, hk, rfl, HC⟩ := hrel
    obtain ⟨u, xs, hr, ho, q0, q1, q2, hb⟩ := HC.out
    obtain ⟨x0, x1⟩ := box1N q0
    by_cases hlt : k < ns.length
    · obtain ⟨b, off, rfl, hb0, _⟩ := V0.out.set hlt
      obtain ⟨b', off', hbe, hbb, hc⟩ := (V0.out.on hb).set hlt
      cases hbe
      obtain ⟨A2, d2, c1, _, _, r1⟩ := hc k hlt
      obtain ⟨z0, z1⟩ := box1N q2
      obtain ⟨Au, cu, rfl⟩ := row_form hr
      have hzw : w.heap.size + 1 + 1 < wr.heap.size := (Array.getElem?_eq_some_iff.1 q2).1
      have hzx : w.heap.size < wr.heap.size := by omega
      have i1 : (k : Int) < (ns.length : Int) := by omega
      have i2 : (0 : Int) ≤ (k : Int) := by omega
      have hlk := HS.out.at hlt
      have n1 : ¬ w.heap.size + 1 + 1 = w.heap.size := by omega
      have n2 : ¬ w.heap.size = w.heap.size + 1 + 1 := by omega
      have Q0 := Lib.hid q0
      have Q1 := Lib.hid q1
      have Q2 := Lib.hid q2
      have HR := Lib.hid hr
      have HO := Lib.hid ho
      have HB := Lib.hid hb
      have AT := Lib.hid (Reads.on r1 ((Below.refl _ _).drew.alloc (Nat.le_refl _) (.cells #[] 29))).atK
      have HZ1 : Hid (wr.heap.size ≤ (wr.drew.alloc (.cells #[] 29)).heap.size) := Lib.hid (Nat.le_of_lt (by rw [World.size_alloc]; exact Nat.lt_succ_self _))
      have C1 := Lib.hid c1
      clear hc q0 q1 q2 hr ho hb r1 HC
      go_wp2
      have hSW : NC1 w.heap.size b (off + k) (.slice (some ⟨b, off, none⟩) ns.length d0) (.slice A2 (ns[k]).length d2) (w.heap.size + 1 + 1) (.slice Au k cu) wr.drew := ⟨x0, c1, z0⟩
      have hSV : NC1 w.heap.size b (off + k) (.slice (some ⟨b, off, none⟩) ns.length d0) (.slice A2 (ns[k]).length d2) (w.heap.size + 1 + 1) (.slice Au k cu) wr := ⟨x0, c1, z0⟩
      refine but_begin (f := 12) (S := NC1 w.heap.size b (off + k) (.slice (some ⟨b, off, none⟩) ns.length d0) (.slice A2 (ns[k]).length d2) (w.heap.size + 1 + 1) (.slice Au k cu)) (by kernel_rfl) ?_
      refine but_take (f := 12) (i := 0) (v := ?v0) rfl (by kernel_rfl) (by kernel_rfl) (by kernel_rfl) (by kernel_rfl) (by kernel_rfl) (fun _ _ _ h => h) (Or.inl ⟨by rfl, ?hy0⟩) hSW ?rest0
      case hy0 =>
        intro W hW
        obtain ⟨h1, h2, h3⟩ := hW
        go_simp
        exact rfl
      simp only [List.getElem_toArray, List.getElem_cons_succ, List.getElem_cons_zero, Act.put, List.setIfInBounds_toArray, List.set_cons_zero, List.set_cons_succ]
      refine but_take (f := 12) (i := 1) (v := ?v1) rfl (by kernel_rfl) (by kernel_rfl) (by kernel_rfl) (by kernel_rfl) (by kernel_rfl) (fun _ _ _ h => h) (Or.inl ⟨by rfl, ?hy1⟩) hSW ?rest1
      case hy1 =>
        intro W hW
        obtain ⟨h1, h2, h3⟩ := hW
        go_simp
        exact rfl
      simp only [List.getElem_toArray, List.getElem_cons_succ, List.getElem_cons_zero, Act.put, List.setIfInBounds_toArray, List.set_cons_zero, List.set_cons_succ]
      refine but_take (f := 12) (i := 3) (v := ?v3) rfl (by kernel_rfl) (by kernel_rfl) (by kernel_rfl) (by kernel_rfl) (by kernel_rfl) (fun _ _ _ h => h) (Or.inl ⟨by rfl, ?hy3⟩) hSW ?rest3
      case hy3 =>
        intro W hW
        obtain ⟨h1, h2, h3⟩ := hW
        go_simp
        exact rfl
      simp only [List.getElem_toArray, List.getElem_cons_succ, List.getElem_cons_zero, Act.put, List.setIfInBounds_toArray, List.set_cons_zero, List.set_cons_succ]
      refine but_take (f := 12) (i := 4) (v := ?v4) rfl (by kernel_rfl) (by kernel_rfl) (by kernel_rfl) (by kernel_rfl) (by kernel_rfl) (fun _ _ _ h => h) (Or.inl ⟨by rfl, ?hy4⟩) hSW ?rest4
      case hy4 =>
        intro W hW
        obtain ⟨h1, h2, h3⟩ := hW
        go_simp
        exact rfl
      simp only [List.getElem_toArray, List.getElem_cons_succ, List.getElem_cons_zero, Act.put, List.setIfInBounds_toArray, List.set_cons_zero, List.set_cons_succ]
      refine but_take (f := 12) (i := 5) (v := ?v5) rfl (by kernel_rfl) (by kernel_rfl) (by kernel_rfl) (by kernel_rfl) (by kernel_rfl) (fun _ _ _ h => h) (Or.inl ⟨by rfl, ?hy5⟩) hSW ?rest5
      case hy5 =>
        intro W hW
        obtain ⟨h1, h2, h3⟩ := hW
        go_simp
        exact rfl
      simp only [List.getElem_toArray, List.getElem_cons_succ, List.getElem_cons_zero, Act.put, List.setIfInBounds_toArray, List.set_cons_zero, List.set_cons_succ]
      refine but_take (f := 12) (i := 6) (v := ?v6) rfl (by kernel_rfl) (by kernel_rfl) (by kernel_rfl) (by kernel_rfl) (by kernel_rfl) (fun _ _ _ h => h) (Or.inl ⟨by rfl, ?hy6⟩) hSW ?rest6
      case hy6 =>
        intro W hW
        obtain ⟨h1, h2, h3⟩ := hW
        go_simp
        exact rfl
      simp only [List.getElem_toArray, List.getElem_cons_succ, List.getElem_cons_zero, Act.put, List.setIfInBounds_toArray, List.set_cons_zero, List.set_cons_succ]
      refine but_take (f := 12) (i := 7) (v := ?v7) rfl (by kernel_rfl) (by kernel_rfl) (by kernel_rfl) (by kernel_rfl) (by kernel_rfl) (fun _ _ _ h => h) (Or.inl ⟨by rfl, ?hy7⟩) hSW ?rest7
      case hy7 =>
        intro W hW
        obtain ⟨h1, h2, h3⟩ := hW
        go_simp
        exact rfl
      simp only [List.getElem_toArray, List.getElem_cons_succ, List.getElem_cons_zero, Act.put, List.setIfInBounds_toArray, List.set_cons_zero, List.set_cons_succ]
      refine but_run (i := 2) (by kernel_rfl) rfl (by rfl) ?_
      simp only [List.getElem_toArray, List.getElem_cons_succ, List.getElem_cons_zero]
      intro K_ HK
      go_wp2
      refine HK.out _ (wr.drew.alloc (.cells #[] 29)) (fun _ => hSW.on (bal1 _ _)) ?_
      clear HK
      refine but_run (i := 8) (by kernel_rfl) rfl (by rfl) ?_
      simp only [List.getElem_toArray, List.getElem_cons_succ, List.getElem_cons_zero]
      intro K_ HK
      refine operAppN _ (by rfl) (.tmp 15) (.tmp 20) 37 29 5 40 (.agg #[.int .i64 0, .int .i64 0, .int .i64 0, .int .i64 0, .int .i64 0]) (by rfl) Try.underlying37 (by kernel_rfl) rfl (by omega) (by omega) wr.heap.size 0 _ [] (by rfl) (row_lit wr.drew 29 5) A2 (ns[k]).length d2 (kvl ns[k]) (by rfl) (kvl_len _) AT.out (kvl_cells _) (by omega) HZ1.out ?_
      intro v6 w6 o6' g6' _ _
      obtain ⟨b6, o6, A6, c6, rfl⟩ := inner_appK wr _ _ o6' g6'
      have hS6 := hSV.on b6
      refine HK.out _ _ (fun _ => hS6) ?_
      clear HK
      have B6 := Lib.hid b6
      have O6 := Lib.hid o6.owns
      clear o6 o6' g6' b6
      simp only [Act.put, List.setIfInBounds_toArray, List.set_cons_zero, List.set_cons_succ]
      refine but_run (i := 9) (by kernel_rfl) rfl (by rfl) ?_
      simp only [List.getElem_toArray, List.getElem_cons_succ, List.getElem_cons_zero]
      intro K_ HK
      go_wp2
      have hS7 := hS6.on (bal1 w6 (.cells #[.slice A6 (ns[k]).length c6] 37))
      refine HK.out _ _ (fun _ => hS7) ?_
      clear HK
      have hz6 := B6.out.size
      refine but_run (i := 10) (by kernel_rfl) rfl (by rfl) ?_
      simp only [List.getElem_toArray, List.getElem_cons_succ, List.getElem_cons_zero]
      intro K_ HK
      refine operAppN _ (by rfl) (.tmp 14) (.tmp 22) 64 37 1 24 (.slice none 0 0) (by rfl) Try.underlying64 (by kernel_rfl) rfl (by omega) (by omega) (w.heap.size + 3) k _ xs (by rfl) (row_on (row_on HR.out B6.out) (bal1 _ _)) _ 1 1 [.slice A6 (ns[k]).length c6] (by rfl) rfl (At.lit1 _ _ _) (by simp [Value.oneCell']) (by omega) (by simp; omega) ?_
      intro v8 w8 o8 g8 n8 at8
      have h8 := box_grown (box_on (box_on Q2.out B6.out) (bal1 _ _)) g8 (row_ne HR.out (by omega))
      have K8 := Lib.hid (box_grown (box_on (box_on Q0.out B6.out) (bal1 _ _)) g8 (row_ne HR.out (by omega)))
      have L8 := Lib.hid (box_grown (box_on (box_on Q1.out B6.out) (bal1 _ _)) g8 (row_ne HR.out (by omega)))
      have hS8 := hS7.grown g8 (row_ne HR.out (by omega)) (row_ne HR.out (by omega)) (row_ne HR.out (by omega))
      refine HK.out _ _ (fun _ => hS8) ?_
      clear HK
      have O8 := Lib.hid o8
      have G8 := Lib.hid g8
      have AT8 := Lib.hid at8
      obtain ⟨gv, cv, rfl⟩ := row_shape o8 (by omega)
      obtain ⟨f0, f1⟩ := box1N h8
      have H8 := Lib.hid h8
      clear h8 o8 g8 at8 n8
      simp only [Act.put, List.setIfInBounds_toArray, List.set_cons_zero, List.set_cons_succ]
      refine but_run (i := 11) (by kernel_rfl) rfl (by rfl) ?_
      simp only [List.getElem_toArray, List.getElem_cons_succ, List.getElem_cons_zero]
      intro K_ HK
      go_wp2
      refine HK.out _ _ (fun _ => hS8) ?_
      clear HK
      refine but_run (i := 12) (by kernel_rfl) rfl (by rfl) ?_
      simp only [List.getElem_toArray, List.getElem_cons_succ, List.getElem_cons_zero]
      intro K_ HK
      go_wp2
      refine HK.out _ _ (fun h => (h rfl).elim) ?_
      clear HK
      have B7 := Lib.hid (bstep B6.out (bal1 w6 (.cells #[.slice A6 (ns[k]).length c6] 37)))
      have HX := Lib.hid (own_grow HR.out HO.out B7.out (OwnsL.one ((O6.out.on (bal1 _ (.cells #[.slice A6 (ns[k]).length c6] 37))).lt)) G8.out AT8.out (by omega))
      have HB8 := Lib.hid (grown_below (bstep HB.out B7.out) G8.out (row_on HR.out B7.out) (by omega))
      have NEW : Hid (SetsIn w ns (.cells #[.slice (some ⟨b, off, none⟩) ns.length d0] 66) (.cells #[.slice none 0 0] 66) (k + 1) (w8.setCell ⟨w.heap.size + 1 + 1, 0, none⟩ (.slice (some ⟨gv, 0, none⟩) (k + 1) cv))) := by
        refine Lib.hid ⟨_, _, row_keep O8.out (fun g hg => Below.heap_setCell _ _ _ _ (by have := (row_lt O8.out g hg).2; simp; omega)), ?_, box_far K8.out (by omega), box_far L8.out (by omega), box_set H8.out, HB8.out.setCell (p := ⟨w.heap.size + 1 + 1, 0, none⟩) (by simp; omega) _⟩
        rw [List.take_succ_eq_append_getElem hlt, List.map_append]
        exact HX.out.keep (fun b hb _ => Below.heap_setCell _ _ _ _ (by have := hb.1; simp; omega))
      clear HX HB8 O8 G8 AT8 H8 K8 L8 HR HO Q0 Q1 Q2 HB B7 B6 O6
      refine but_done (by kernel_rfl) ?_
      go_wp2
      go_roundw
      case rel => exact ⟨k + 1, by omega, by go_num, NEW⟩
      case measure => simp [intOf]; omega
    · have e : k = ns.length := by omega
      subst e
      rw [List.take_of_length_le (Nat.le_refl _)] at ho
      obtain ⟨Au, cu, rfl⟩ := row_form hr
      obtain ⟨z0, z1⟩ := box1N q2
      obtain ⟨y0, y1⟩ := box1N q1
      have hsec : Owns wr (fun b => w.heap.size + 3 ≤ b) (.slice Au ns.length cu) (setsD ns) := row_owns hr ho (by simp)
      have HSEC := Lib.hid hsec
      have HBB := Lib.hid hb
      clear hsec ho hr q0 q1 q2 hb HC
      go_wp2
      refine bodyPost_ret (v := .agg #[.slice Au ns.length cu]) (by simp [results, Try.results96, go_sem, y0, y1]) rfl ⟨_, rfl, ?_, ?_⟩
      · exact (HSEC.out.setFar (by omega)).mono (fun b hb => by omega)
      · exact HBB.out.setCell (p := ⟨w.heap.size + 1, 0, none⟩) (show w.heap.size ≤ w.heap.size + 1 by omega) _
end Go.Proofs.Ytnmoikgobbcifaa
