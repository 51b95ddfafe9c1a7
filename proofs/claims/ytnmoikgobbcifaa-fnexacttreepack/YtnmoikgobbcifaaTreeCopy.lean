/- Contracts of slices.Clone at nodes and ints, impl.copyTree and spec.l6Copy: a new tree in new memory that reads alike. Conditions: at most 1100000 bounds, nodes, sets and keys. -/
import Derived.Test.YtnmoikgobbcifaaTreeMark
import Derived.Test.YtnmoikgobbcifaaNodeCopy
namespace Go.Proofs.Ytnmoikgobbcifaa
open Go.RowKit
set_option maxRecDepth 100000
set_option linter.unusedSimpArgs false
set_option linter.unusedVariables false
theorem cloneNodes_any (A : Option Addr) (n c : Nat) (xs : List Value) (w : World) (hA : At w A xs) (hl : xs.length = n * 1) (h1 : ∀ u ∈ xs, u.oneCell' = true) (hn : n ≤ 1100000) : Calls Try.prog 72 #[.slice A n c] w (NewRow w 66 1 n xs) := by
  rcases A with _ | ad
  · have h0 : xs = [] := by
      rcases hA with h | ⟨b, off, h, _⟩
      · exact h
      · cases h
    subst h0
    have h2 : n = 0 := by simpa using hl.symm
    subst h2
    have hq := run_eqnil (P := Try.prog) w 25 66 none 0 c Try.underlying25
    go_enter Try.func72, Try.ntmps72
    go_wp2
    go_ret
    exact ⟨_, rfl, row_nil _ _ _ _, Below.refl _ _⟩
  · have hA0 := hA.on (bal1 w (.cells #[] 66))
    have ho0 := row_lit w 66 1
    have HB := Lib.hid (bal1 w (.cells #[] 66))
    have hq := run_eqnil (P := Try.prog) w 25 66 (some ad) n c Try.underlying25
    have HL := Lib.hid hl
    have H1 := Lib.hid h1
    clear hA hl h1
    go_enter Try.func72, Try.ntmps72
    go_wp2_with (at_builtin; refine wpList_appV _ rfl (.tmp 5) (.tmp 6) 25 66 1 24 (.agg #[.slice none 0 0]) rfl Try.underlying25 (by kernel_rfl) rfl (by omega) (by omega) w.heap.size 0 _ [] rfl ho0 (some ad) n c xs rfl HL.out hA0 H1.out (by omega) (by simp) ?_; intro v1 w1 o1 g1 _ _; have b1 := Lib.hid (grown_below HB.out g1 ho0 (Nat.le_refl _)); clear g1 ho0 hA0)
    rw [List.nil_append, Nat.zero_add] at o1
    go_ret
    exact ⟨v1, rfl, o1, b1.out⟩
theorem cloneInts_any (A : Option Addr) (n c : Nat) (xs : List Value) (w : World) (hA : At w A xs) (hl : xs.length = n * 1) (h1 : ∀ u ∈ xs, u.oneCell' = true) (hn : n ≤ 1100000) : Calls Try.prog 74 #[.slice A n c] w (NewRow w 3 1 n xs) := by
  rcases A with _ | ad
  · have h0 : xs = [] := by
      rcases hA with h | ⟨b, off, h, _⟩
      · exact h
      · cases h
    subst h0
    have h2 : n = 0 := by simpa using hl.symm
    subst h2
    have hq := run_eqnil (P := Try.prog) w 24 3 none 0 c Try.underlying24
    go_enter Try.func74, Try.ntmps74
    go_wp2
    go_ret
    exact ⟨_, rfl, row_nil _ _ _ _, Below.refl _ _⟩
  · have hA0 := hA.on (bal1 w (.cells #[] 3))
    have ho0 := row_lit w 3 1
    have HB := Lib.hid (bal1 w (.cells #[] 3))
    have hq := run_eqnil (P := Try.prog) w 24 3 (some ad) n c Try.underlying24
    have HL := Lib.hid hl
    have H1 := Lib.hid h1
    clear hA hl h1
    go_enter Try.func74, Try.ntmps74
    go_wp2_with (at_builtin; refine wpList_appV _ rfl (.tmp 5) (.tmp 6) 24 3 1 8 (.int .i64 0) rfl Try.underlying24 (by kernel_rfl) rfl (by omega) (by omega) w.heap.size 0 _ [] rfl ho0 (some ad) n c xs rfl HL.out hA0 H1.out (by omega) (by simp) ?_; intro v1 w1 o1 g1 _ _; have b1 := Lib.hid (grown_below HB.out g1 ho0 (Nat.le_refl _)); clear g1 ho0 hA0)
    rw [List.nil_append, Nat.zero_add] at o1
    go_ret
    exact ⟨v1, rfl, o1, b1.out⟩
theorem only_two (w : World) (p i j : Nat) (a b : Value) : Only (fun b => b = p) w ((w.setCell ⟨p, i, none⟩ a).setCell ⟨p, j, none⟩ b) :=
  Only.setCell (S := fun b => b = p) (g := p) (Only.setCell (S := fun b => b = p) (g := p) (Only.refl _ _) rfl _) rfl _
theorem one_iV (l : List Int) : ∀ u ∈ l.map iV, u.oneCell' = true := by
  intro u hu
  simp only [List.mem_map] at hu
  obtain ⟨n, _, rfl⟩ := hu
  rfl
theorem row_ints {w : World} {base : Nat} {v : Value} {lo : List Int} (h : w.ownsRow base 3 1 v lo.length (lo.map iV)) : Owns w (fun b => base ≤ b) v (intsD lo) := row_owns h (ints_litL _ _ _) (by simp)
theorem Reads.atI {w : World} {B : Nat} {A : Option Addr} {n c : Nat} {lo : List Int} (h : Reads w B (.slice A n c) (intsD lo)) : At w A (lo.map iV) := by
  obtain ⟨xs, hat, hrs, _⟩ := h.cells
  rw [← lits_eq hrs]
  exact hat
set_option maxHeartbeats 4000000 in
theorem copyTree_any (vl vn : Value) (lo : List Int) (ts : List NodeD) (w : World) (hv : RdT w w.heap.size vl vn lo ts) (hs : SmallT lo ts) : Calls Try.prog 43 #[.agg #[vl, vn]] w (NewTS w lo ts) := by
  obtain ⟨A, c, B, d, rfl, rfl⟩ := hv.shape
  have HS := Lib.hid hs
  have s1 := hs.1
  have s2 := hs.2.1
  have HVL := Lib.hid hv.1
  obtain ⟨xs, hat, hrs, hxl⟩ := hv.2.cells
  have X0 := Lib.hid hrs
  have HXL := Lib.hid hxl
  have ones : ∀ u ∈ xs, u.oneCell' = true := hrs.ones (fun c hc => by simp at hc; obtain ⟨l, _, rfl⟩ := hc; rfl)
  obtain ⟨q0, q1⟩ := al2 w (.cells #[.slice A lo.length c, .slice B ts.length d] 27) (.cells #[.slice none 0 0, .slice none 0 0] 27)
  have Q0 := Lib.hid q0
  have Q1 := Lib.hid q1
  clear hv hs hrs hxl q0 q1
  go_enter Try.func43, Try.ntmps43
  go_wp2_with fail
  refine (cloneNodes_any B ts.length d xs _ (hat.on (bal2 _ _ _)) HXL.out ones s2).mono ?_
  rintro e w1 ⟨u, rfl, ho1, b1⟩
  have hb1 := bstep (bal2 _ _ _) b1
  have q0 := box_on Q0.out b1
  have q1 := box_on Q1.out b1
  have hz := b1.size
  simp only [World.size_alloc] at hz ho1
  obtain ⟨Au, cu, rfl⟩ := row_form ho1
  have HO1 := Lib.hid ho1
  have P0 := Lib.hid q0
  have P1 := Lib.hid q1
  have HB1 := Lib.hid hb1
  clear b1 ones hat q0 q1 ho1 hb1
  have REL1 : Hid (CopyIn w (w.heap.size + 1 + 1) w.heap.size (.cells #[.slice A lo.length c, .slice B ts.length d] 27) (.slice Au ts.length cu) 66 1 ts.length 0 xs (ts.map setsD) w1) :=
    Lib.hid ⟨xs, HO1.out, by simpa using OwnsL.nil _ _, fun _ _ => rfl, P0.out, HB1.out⟩
  go_wp2
  go_loopw [11] (fun i wr => ∃ k : Nat, k ≤ ts.length ∧ i = .int .i64 k ∧ Hid (CopyIn w (w.heap.size + 1 + 1) w.heap.size (.cells #[.slice A lo.length c, .slice B ts.length d] 27) (.slice Au ts.length cu) 66 1 ts.length k xs (ts.map setsD) wr) ∧ Hid (wr.heap[w.heap.size + 1]? = some (.cells #[.slice none 0 0, .slice none 0 0] 27))) (fun i _ => ts.length - (intOf i).toNat)
  case atStart => exact ⟨0, Nat.zero_le _, rfl, REL1, P1⟩
  case round =>
    clear hz REL1
    obtain ⟨k, hk, rfl, HC, HP⟩ := hrel
    obtain ⟨zs, ho, hown, htl, hbx, hb⟩ := HC.out
    by_cases hlt : k < ts.length
    · have hxk : k < xs.length := by rw [HXL.out]; omega
      rcases row_cases ho with ⟨_, h, _⟩ | ⟨g, cap, hu, hbg, hR, hn, hc, hl⟩
      · omega
      · cases hu
        have hzk : k < zs.length := by omega
        have ez : zs[k] = xs[k] := by
          have := htl k (Nat.le_refl _)
          rw [List.getElem?_eq_getElem hzk, List.getElem?_eq_getElem hxk] at this
          exact Option.some.inj this
        have c1 := hR.cell hzk
        rw [ez] at c1
        have rk := (X0.out.on hb).2 k hxk (by simpa using hlt)
        rw [List.getElem_map] at rk
        obtain ⟨Ak, dk, ek, _, _⟩ := rk.lenN
        rw [ek] at c1 rk
        have hg := hR.lt
        have hlk := Lib.hid (HS.out.at hlt)
        have i1 : (k : Int) < (ts.length : Int) := by omega
        have i2 : (0 : Int) ≤ (k : Int) := by omega
        have hne2 : ¬ w.heap.size = g := by omega
        have ba := bal1 wr (.cells #[.slice Ak (ts[k]).length dk] 66)
        have RK := Lib.hid (rk.on ba)
        have BA := Lib.hid ba
        have HOWN := Lib.hid hown
        have HO := Lib.hid ho
        have HT := Lib.hid htl
        have HR := Lib.hid hR
        have HBX := Lib.hid hbx
        have HZ := Lib.hid hzk
        have HBB := Lib.hid hb
        clear rk ek ez hown ho htl hR hbx hb hl hxk hzk HC ba
        go_wp2_with fail
        refine (copyNode_any _ ts[k] _ RK.out hlk.out).mono ?_
        rintro e w2 ⟨x, rfl, ox, b2'⟩
        have b2 := bstep BA.out b2'
        have hsz : wr.heap.size ≤ (wr.alloc (.cells #[.slice Ak (ts[k]).length dk] 66)).heap.size := BA.out.size
        have R2 := HR.out.keep (b2.block g hg)
        have cc := R2.cell HZ.out
        have ff := R2.frozen k
        obtain ⟨Ax, dx, rfl, _, _⟩ := ox.reads.lenN
        have NEW := Lib.hid (CopyIn.step (w := w) HO.out HOWN.out HT.out HBX.out HBB.out b2 (ox.mono (fun b hb => Nat.le_trans hsz hb)) hg (by omega) hne2 (by omega) hlt)
        have HP2 := Lib.hid (box_far (j := k) (u := .slice Ax (ts[k]).length dx) (box_on HP.out b2) (show w.heap.size + 1 ≠ g by omega))
        clear ox b2 b2' R2 c1 hsz
        go_wp2
        go_roundw
        case rel =>
          refine ⟨k + 1, by omega, by go_num, ?_, HP2⟩
          have h := NEW.out
          exact Lib.hid (h (by simpa using hlt) (by simp))
        case measure => simp [intOf]; omega
    · have e : k = ts.length := by omega
      have hsec : Owns wr (fun b => w.heap.size + 1 + 1 ≤ b) (.slice Au ts.length cu) (nodesD ts) := by
        subst e
        have h1 : zs.length = ts.length * 1 := ho.1
        rw [List.take_of_length_le (by omega), List.take_of_length_le (by simp)] at hown
        exact row_owns ho hown (by simp)
      have HSEC := Lib.hid hsec.lt
      have HBB := Lib.hid hb
      obtain ⟨x0, x1, x2⟩ := box2 hbx
      have AT := Lib.hid ((HVL.out.on hb).atI)
      have hzw := (Array.getElem?_eq_some_iff.1 HP.out).1
      clear hsec hown ho htl hbx hb HC
      go_wp2_with fail
      refine (cloneInts_any A lo.length c (lo.map iV) _ AT.out (by simp) (one_iV _) s1).mono ?_
      rintro e w3 ⟨v3, rfl, o3, b3⟩
      obtain ⟨A3, c3, rfl⟩ := row_form o3
      have O3 := Lib.hid (row_ints o3)
      have ON := Lib.hid (HSEC.out.on b3)
      have B3 := Lib.hid (bstep HBB.out b3)
      have hz3 := b3.size
      clear x0 x1 x2
      obtain ⟨x0, x1, x2⟩ := box2 (box_on HP.out b3)
      clear o3 b3
      go_wp2
      have HO : ∀ a b, Only (fun b => b = w.heap.size + 1) w3 ((w3.setCell ⟨w.heap.size + 1, 0, none⟩ a).setCell ⟨w.heap.size + 1, 1, none⟩ b) := fun a b => only_two _ _ _ _ _ _
      refine bodyPost_ret (v := .agg #[.slice A3 lo.length c3, .slice Au ts.length cu]) (by simp [results, Try.results43, go_sem, x0, x1, x2]) rfl ⟨_, _, rfl, ⟨fun b => wr.heap.size ≤ b, fun b => w.heap.size + 1 + 1 ≤ b ∧ b < wr.heap.size, fun b hb => by omega, fun b hb => by omega, fun b hb hb' => by omega, O3.out.far (HO _ _) (fun b hb _ hb' => by omega), ON.out.far (HO _ _) (fun b hb _ hb' => by omega)⟩, B3.out.trans ((HO _ _).below B3.out.size (fun b hb => by omega))⟩
/-- What the region of spec.l6Copy reads. -/
def NC2 (p1 b1 o1 : Nat) (v1 e1 : Value) (p3 : Nat) (v3 : Value) (W : World) : Prop := W.cell? ⟨p1, 1, none⟩ = some v1 ∧ W.cell? ⟨b1, o1, none⟩ = some e1 ∧ W.cell? ⟨p3, 1, none⟩ = some v3
theorem NC2.on {p1 b1 o1 : Nat} {v1 e1 : Value} {p3 : Nat} {v3 : Value} {wr W : World} (h : NC2 p1 b1 o1 v1 e1 p3 v3 wr) (hb : Below wr.heap.size wr W) : NC2 p1 b1 o1 v1 e1 p3 v3 W :=
  have k : ∀ (b o : Nat) (v : Value), wr.cell? ⟨b, o, none⟩ = some v → W.cell? ⟨b, o, none⟩ = some v := fun b o _ hc => (World.cell?_of_block (a := ⟨b, o, none⟩) (hb.block b (World.block_lt_of_cell? wr _ hc))).trans hc
  ⟨k _ _ _ h.1, k _ _ _ h.2.1, k _ _ _ h.2.2⟩
theorem NC2.grown {p1 b1 o1 : Nat} {v1 e1 : Value} {p3 : Nat} {v3 : Value} {wr W : World} {g : Option Nat} (h : NC2 p1 b1 o1 v1 e1 p3 v3 wr) (hg : wr.grownBy W g) (h1 : g ≠ some p1) (h2 : g ≠ some b1) (h3 : g ≠ some p3) : NC2 p1 b1 o1 v1 e1 p3 v3 W :=
  have k : ∀ (b o : Nat) (v : Value), g ≠ some b → wr.cell? ⟨b, o, none⟩ = some v → W.cell? ⟨b, o, none⟩ = some v := fun b o _ hn hc => (World.cell?_of_block (a := ⟨b, o, none⟩) (hg.block b (World.block_lt_of_cell? wr _ hc) (fun e => hn e.symm))).trans hc
  ⟨k _ _ _ h1 h.1, k _ _ _ h2 h.2.1, k _ _ _ h3 h.2.2⟩
def NodesIn (W2 : World) (p3 : Nat) (vlo : Value) (ts : List NodeD) (k : Nat) (wr : World) : Prop :=
  ∃ u xs, wr.ownsRow (p3 + 1) 66 1 u k xs ∧ OwnsL wr (Tof (p3 + 1) u) xs ((ts.take k).map setsD) ∧ wr.heap[p3]? = some (.cells #[vlo, u] 27 (0, 0)) ∧ Below p3 W2 wr
theorem Below.of {B : Nat} {a b c : World} (h : Below B a b) (k : Below b.heap.size b c) (hB : B ≤ b.heap.size) : Below B a c := h.trans (k.mono hB)
set_option maxHeartbeats 8000000 in
theorem l6Copy_any (vl vn : Value) (lo : List Int) (ts : List NodeD) (w : World) (hv : RdT w w.heap.size vl vn lo ts) (hs : SmallT lo ts) : Calls Try.prog 67 #[.agg #[vl, vn]] w (NewTS w lo ts) := by
  obtain ⟨A, c, B, d, rfl, rfl⟩ := hv.shape
  have HS := Lib.hid hs
  have s1 := hs.1
  have s2 := hs.2.1
  obtain ⟨q0, q1⟩ := al2 w (.cells #[.slice A lo.length c, .slice B ts.length d] 27) (.cells #[.slice none 0 0, .slice none 0 0] 27)
  have hb2 := bal2 w (.cells #[.slice A lo.length c, .slice B ts.length d] 27) (.cells #[.slice none 0 0, .slice none 0 0] 27)
  have hz2 : ((w.alloc (.cells #[.slice A lo.length c, .slice B ts.length d] 27)).alloc (.cells #[.slice none 0 0, .slice none 0 0] 27)).heap.size = w.heap.size + 2 := by simp
  have HV0 := Lib.hid hv.2
  have HV := Lib.hid (hv.on hb2)
  have HB := Lib.hid hb2
  have Q0 := Lib.hid q0
  have Q1 := Lib.hid q1
  have HZ2 := Lib.hid hz2
  clear hv hs q0 q1 hb2 hz2
  go_enter Try.func67, Try.ntmps67
  go_upto_region 1 with (fail)
  generalize (w.alloc (.cells #[.slice A lo.length c, .slice B ts.length d] 27)).alloc (.cells #[.slice none 0 0, .slice none 0 0] 27) = W at *
  have ba := bal1 W (.cells #[] 3)
  have AT := Lib.hid ((HV.out.1.on ba).atI)
  have ho0 := row_lit W 3 1
  obtain ⟨x0, x1, x2⟩ := box2 (box_on Q0.out ba)
  have BA := Lib.hid ba
  have HON : Hid (∀ u ∈ lo.map iV, u.oneCell' = true) := Lib.hid (one_iV lo)
  clear ba
  go_wp2_with (at_builtin; refine wpList_appV _ rfl (.tmp 5) (.tmp 7) 24 3 1 8 (.int .i64 0) rfl Try.underlying24 (by kernel_rfl) rfl (by omega) (by omega) W.heap.size 0 _ [] rfl ho0 A lo.length c (lo.map iV) rfl (by simp) AT.out HON.out (by omega) (by simp) ?_; intro v1 w1 o1 g1 _ _; have b1 := Lib.hid (grown_below BA.out g1 ho0 (Nat.le_refl _)); clear g1 ho0 AT x0 x1 x2; rw [List.nil_append, Nat.zero_add] at o1; obtain ⟨Al, cl, rfl⟩ := row_form o1)
  have OL := Lib.hid (row_ints o1).lt
  have hz2 := Nat.le_of_eq HZ2.out
  have hz2' := Nat.le_of_eq HZ2.out.symm
  have hzb := b1.out.size
  clear o1
  have q3 := al1 w1 (.cells #[.slice Al lo.length cl, .slice none 0 0] 27)
  have ba := bal1 w1 (.cells #[.slice Al lo.length cl, .slice none 0 0] 27)
  have hzA : (w1.alloc (.cells #[.slice Al lo.length cl, .slice none 0 0] 27)).heap.size = w1.heap.size + 1 := by simp
  replace HB := Lib.hid (bstep (bstep HB.out b1.out) ba)
  replace HV := Lib.hid ((HV.out.on b1.out).on ba)
  replace Q0 := Lib.hid (box_on (box_on Q0.out b1.out) ba)
  replace Q1 := Lib.hid (box_on (box_on Q1.out b1.out) ba)
  replace OL := Lib.hid (OL.out.on ba)
  have Q3 := Lib.hid q3
  have HZA := Lib.hid hzA
  clear q3 ba b1 hzA
  go_upto_region 2 with (fail)
  generalize w1.alloc (.cells #[.slice Al lo.length cl, .slice none 0 0] 27) = W2 at *
  have hzA1 := Nat.le_of_eq HZA.out
  have hzA2 := Nat.le_of_eq HZA.out.symm
  have REL : Hid (NodesIn W2 w1.heap.size (.slice Al lo.length cl) ts 0 W2) := Lib.hid ⟨.slice none 0 0, [], row_nil _ _ _ _, by simpa using OwnsL.nil _ _, Q3.out, Below.refl _ _⟩
  go_wp2
  go_loopw [4] (fun i wr => ∃ k : Nat, k ≤ ts.length ∧ i = .int .i64 k ∧ Hid (NodesIn W2 w1.heap.size (.slice Al lo.length cl) ts k wr)) (fun i _ => ts.length - (intOf i).toNat)
  case atStart => exact ⟨0, Nat.zero_le _, rfl, REL⟩
  case round =>
    clear REL
    obtain ⟨k, hk, rfl, HC⟩ := hrel
    obtain ⟨u, xs, hr, ho, q3, hb⟩ := HC.out
    have q0 : wr.heap[w.heap.size]? = some (.cells #[.slice A lo.length c, .slice B ts.length d] 27) := (hb.block _ (by omega)).trans Q0.out
    obtain ⟨x0, x1, x2⟩ := box2 q0
    have hzW := hb.size
    have hbw : Below w.heap.size w wr := HB.out.trans (hb.mono (by omega))
    by_cases hlt : k < ts.length
    · obtain ⟨b, off, hBe, hb0, _⟩ := HV0.out.node hlt
      subst hBe
      obtain ⟨b', off', hbe, _, hc⟩ := (HV0.out.on hbw).node hlt
      cases hbe
      obtain ⟨A2, d2, c1, _, _, r1⟩ := hc k hlt
      obtain ⟨z0, z1, z2⟩ := box2 q3
      obtain ⟨Au, cu, rfl⟩ := row_form hr
      have hz3 := (Array.getElem?_eq_some_iff.1 q3).1
      have i1 : (k : Int) < (ts.length : Int) := by omega
      have i2 : (0 : Int) ≤ (k : Int) := by omega
      have hlk := Lib.hid (HS.out.at hlt)
      have n1 : ¬ w1.heap.size = w.heap.size := by omega
      have n2 : ¬ w.heap.size = w1.heap.size := by omega
      have R1 := Lib.hid r1
      have Q3 := Lib.hid q3
      have HR := Lib.hid hr
      have HO := Lib.hid ho
      have HX := Lib.hid hb
      clear hc q0 q3 hr ho hb r1 HC hbw
      go_wp2
      have hSW : NC2 w.heap.size b (off + k) (.slice (some ⟨b, off, none⟩) ts.length d) (.slice A2 (ts[k]).length d2) w1.heap.size (.slice Au k cu) wr.drew := ⟨x1, c1, z1⟩
      have hSV : NC2 w.heap.size b (off + k) (.slice (some ⟨b, off, none⟩) ts.length d) (.slice A2 (ts[k]).length d2) w1.heap.size (.slice Au k cu) wr := ⟨x1, c1, z1⟩
      refine but_begin (f := 11) (S := NC2 w.heap.size b (off + k) (.slice (some ⟨b, off, none⟩) ts.length d) (.slice A2 (ts[k]).length d2) w1.heap.size (.slice Au k cu)) (by kernel_rfl) ?_
      refine but_take (f := 11) (i := 0) (v := ?v0) rfl (by kernel_rfl) (by kernel_rfl) (by kernel_rfl) (by kernel_rfl) (by kernel_rfl) (fun _ _ _ h => h) (Or.inl ⟨by rfl, ?hy0⟩) hSW ?rest0
      case hy0 =>
        intro W hW
        obtain ⟨h1, h2, h3⟩ := hW
        go_simp
        exact rfl
      simp only [List.getElem_toArray, List.getElem_cons_succ, List.getElem_cons_zero, Act.put, List.setIfInBounds_toArray, List.set_cons_zero, List.set_cons_succ]
      refine but_take (f := 11) (i := 1) (v := ?v1) rfl (by kernel_rfl) (by kernel_rfl) (by kernel_rfl) (by kernel_rfl) (by kernel_rfl) (fun _ _ _ h => h) (Or.inl ⟨by rfl, ?hy1⟩) hSW ?rest1
      case hy1 =>
        intro W hW
        obtain ⟨h1, h2, h3⟩ := hW
        go_simp
        exact rfl
      simp only [List.getElem_toArray, List.getElem_cons_succ, List.getElem_cons_zero, Act.put, List.setIfInBounds_toArray, List.set_cons_zero, List.set_cons_succ]
      refine but_take (f := 11) (i := 2) (v := ?v2) rfl (by kernel_rfl) (by kernel_rfl) (by kernel_rfl) (by kernel_rfl) (by kernel_rfl) (fun _ _ _ h => h) (Or.inl ⟨by rfl, ?hy2⟩) hSW ?rest2
      case hy2 =>
        intro W hW
        obtain ⟨h1, h2, h3⟩ := hW
        go_simp
        exact rfl
      simp only [List.getElem_toArray, List.getElem_cons_succ, List.getElem_cons_zero, Act.put, List.setIfInBounds_toArray, List.set_cons_zero, List.set_cons_succ]
      refine but_take (f := 11) (i := 3) (v := ?v3) rfl (by kernel_rfl) (by kernel_rfl) (by kernel_rfl) (by kernel_rfl) (by kernel_rfl) (fun _ _ _ h => h) (Or.inl ⟨by rfl, ?hy3⟩) hSW ?rest3
      case hy3 =>
        intro W hW
        obtain ⟨h1, h2, h3⟩ := hW
        go_simp
        exact rfl
      simp only [List.getElem_toArray, List.getElem_cons_succ, List.getElem_cons_zero, Act.put, List.setIfInBounds_toArray, List.set_cons_zero, List.set_cons_succ]
      refine but_take (f := 11) (i := 4) (v := ?v4) rfl (by kernel_rfl) (by kernel_rfl) (by kernel_rfl) (by kernel_rfl) (by kernel_rfl) (fun _ _ _ h => h) (Or.inl ⟨by rfl, ?hy4⟩) hSW ?rest4
      case hy4 =>
        intro W hW
        obtain ⟨h1, h2, h3⟩ := hW
        go_simp
        exact rfl
      simp only [List.getElem_toArray, List.getElem_cons_succ, List.getElem_cons_zero, Act.put, List.setIfInBounds_toArray, List.set_cons_zero, List.set_cons_succ]
      refine but_take (f := 11) (i := 5) (v := ?v5) rfl (by kernel_rfl) (by kernel_rfl) (by kernel_rfl) (by kernel_rfl) (by kernel_rfl) (fun _ _ _ h => h) (Or.inl ⟨by rfl, ?hy5⟩) hSW ?rest5
      case hy5 =>
        intro W hW
        obtain ⟨h1, h2, h3⟩ := hW
        go_simp
        exact rfl
      simp only [List.getElem_toArray, List.getElem_cons_succ, List.getElem_cons_zero, Act.put, List.setIfInBounds_toArray, List.set_cons_zero, List.set_cons_succ]
      refine but_take (f := 11) (i := 6) (v := ?v6) rfl (by kernel_rfl) (by kernel_rfl) (by kernel_rfl) (by kernel_rfl) (by kernel_rfl) (fun _ _ _ h => h) (Or.inl ⟨by rfl, ?hy6⟩) hSW ?rest6
      case hy6 =>
        intro W hW
        obtain ⟨h1, h2, h3⟩ := hW
        go_simp
        exact rfl
      simp only [List.getElem_toArray, List.getElem_cons_succ, List.getElem_cons_zero, Act.put, List.setIfInBounds_toArray, List.set_cons_zero, List.set_cons_succ]
      refine but_run (i := 7) (by kernel_rfl) rfl (by rfl) ?_
      simp only [List.getElem_toArray, List.getElem_cons_succ, List.getElem_cons_zero]
      intro K_ HK
      go_wp2_with fail
      refine (l5Copy_any _ ts[k] _ (R1.out.on (Below.drew1 _)) hlk.out).mono ?_
      rintro e w6 ⟨v6, rfl, o6, b6'⟩
      obtain ⟨A6, c6, rfl, _, _⟩ := o6.reads.lenN
      have b6 : Below wr.heap.size wr w6 := bstep (Below.drew1 _) b6'
      have hS6 := hSV.on b6
      go_wp2_with fail
      refine HK.out _ _ (fun _ => hS6) ?_
      clear HK
      have B6 := Lib.hid b6
      have O6 : Hid (Owns w6 (fun b => wr.heap.size ≤ b) (.slice A6 (ts[k]).length c6) (setsD ts[k])) := Lib.hid o6
      clear o6 b6 b6'
      try simp only [Act.put, List.setIfInBounds_toArray, List.set_cons_zero, List.set_cons_succ]
      refine but_run (i := 8) (by kernel_rfl) rfl (by rfl) ?_
      simp only [List.getElem_toArray, List.getElem_cons_succ, List.getElem_cons_zero]
      intro K_ HK
      go_wp2
      have hS7 := hS6.on (bal1 w6 (.cells #[.slice A6 (ts[k]).length c6] 66))
      refine HK.out _ _ (fun _ => hS7) ?_
      clear HK
      have hz6 := B6.out.size
      refine but_run (i := 9) (by kernel_rfl) rfl (by rfl) ?_
      simp only [List.getElem_toArray, List.getElem_cons_succ, List.getElem_cons_zero]
      intro K_ HK
      refine operAppN _ (by rfl) (.tmp 18) (.tmp 25) 25 66 1 24 (.agg #[.slice none 0 0]) (by rfl) Try.underlying25 (by kernel_rfl) rfl (by omega) (by omega) (w1.heap.size + 1) k _ xs (by rfl) (row_on (row_on HR.out B6.out) (bal1 _ _)) _ 1 1 [.slice A6 (ts[k]).length c6] (by rfl) rfl (At.lit1 _ _ _) (by simp [Value.oneCell']) (by omega) (by simp; omega) ?_
      intro v8 w8 o8 g8 n8 at8
      have h8 := box_grown (box_on (box_on Q3.out B6.out) (bal1 _ _)) g8 (row_ne HR.out (by omega))
      have hS8 := hS7.grown g8 (row_ne HR.out (by omega)) (row_ne HR.out (by omega)) (row_ne HR.out (by omega))
      refine HK.out _ _ (fun _ => hS8) ?_
      clear HK
      have O8 := Lib.hid o8
      have G8 := Lib.hid g8
      have AT8 := Lib.hid at8
      obtain ⟨gv, cv, rfl⟩ := row_shape o8 (by omega)
      obtain ⟨f0, f1, f2⟩ := box2 h8
      have H8 := Lib.hid h8
      clear h8 o8 g8 at8 n8
      simp only [Act.put, List.setIfInBounds_toArray, List.set_cons_zero, List.set_cons_succ]
      refine but_run (i := 10) (by kernel_rfl) rfl (by rfl) ?_
      simp only [List.getElem_toArray, List.getElem_cons_succ, List.getElem_cons_zero]
      intro K_ HK
      go_wp2
      refine HK.out _ _ (fun _ => hS8) ?_
      clear HK
      refine but_run (i := 11) (by kernel_rfl) rfl (by rfl) ?_
      simp only [List.getElem_toArray, List.getElem_cons_succ, List.getElem_cons_zero]
      intro K_ HK
      go_wp2
      refine HK.out _ _ (fun h => (h rfl).elim) ?_
      clear HK
      have B7 := Lib.hid (bstep B6.out (bal1 w6 (.cells #[.slice A6 (ts[k]).length c6] 66)))
      have HX2 := Lib.hid (own_grow HR.out HO.out B7.out (OwnsL.one ((O6.out.on (bal1 _ (.cells #[.slice A6 (ts[k]).length c6] 66))).lt)) G8.out AT8.out (by omega))
      have HB8 : Hid (Below w1.heap.size W2 w8) := Lib.hid (((HX.out.trans (B7.out.mono (by omega))).grown G8.out (Nat.le_trans (Nat.le_trans (by omega) hzW) (Nat.le_trans (Nat.le_refl _) B7.out.size)) (fun k hk => by have := (row_lt (row_on HR.out B7.out) k hk).2; omega)))
      have NEW : Hid (NodesIn W2 w1.heap.size (.slice Al lo.length cl) ts (k + 1) (w8.setCell ⟨w1.heap.size, 1, none⟩ (.slice (some ⟨gv, 0, none⟩) (k + 1) cv))) := by
        refine Lib.hid ⟨_, _, row_keep O8.out (fun g hg => Below.heap_setCell _ _ _ _ (by have := (row_lt O8.out g hg).2; simp; omega)), ?_, box_set H8.out, HB8.out.setCell (p := ⟨w1.heap.size, 1, none⟩) (Nat.le_refl _) _⟩
        rw [List.take_succ_eq_append_getElem hlt, List.map_append]
        exact HX2.out.keep (fun b hb _ => Below.heap_setCell _ _ _ _ (by have := hb.1; simp; omega))
      clear HX2 HB8 O8 G8 AT8 H8 HR HO Q3 B7 B6 O6
      refine but_done (by kernel_rfl) ?_
      go_wp2
      go_roundw
      case rel => exact ⟨k + 1, by omega, by go_num, NEW⟩
      case measure => simp [intOf]; omega
    · have e : k = ts.length := by omega
      subst e
      rw [List.take_of_length_le (Nat.le_refl _)] at ho
      obtain ⟨Au, cu, rfl⟩ := row_form hr
      obtain ⟨z0, z1, z2⟩ := box2 q3
      have q1 : wr.heap[w.heap.size + 1]? = some (.cells #[.slice none 0 0, .slice none 0 0] 27) := (hb.block _ (by omega)).trans Q1.out
      obtain ⟨y0, y1, y2⟩ := box2 q1
      have hsec : Owns wr (fun b => w1.heap.size + 1 ≤ b) (.slice Au ts.length cu) (nodesD ts) := row_owns hr ho (by simp)
      have HSEC := Lib.hid hsec
      have HLW : Hid (Owns wr (fun b => W.heap.size ≤ b ∧ b < w1.heap.size) (.slice Al lo.length cl) (intsD lo)) := Lib.hid (OL.out.keep (fun b hb' _ => hb.block b hb'.2))
      have HBB := Lib.hid hbw
      have n3 : ¬ w1.heap.size = w.heap.size + 1 := by omega
      clear hsec ho hr q0 q1 q3 hb HC hbw
      go_wp2
      have HO : ∀ a b, Only (fun b => b = w.heap.size + 1) wr ((wr.setCell ⟨w.heap.size + 1, 0, none⟩ a).setCell ⟨w.heap.size + 1, 1, none⟩ b) := fun a b => only_two _ _ _ _ _ _
      refine bodyPost_ret (v := .agg #[.slice Al lo.length cl, .slice Au ts.length cu]) (by simp [results, Try.results67, go_sem, y0, y1, y2]) rfl ⟨_, _, rfl, ⟨fun b => W.heap.size ≤ b ∧ b < w1.heap.size, fun b => w1.heap.size + 1 ≤ b, fun b hb => by omega, fun b hb => by omega, fun b hb hb' => by omega, HLW.out.far (HO _ _) (fun b hb _ hb' => by omega), HSEC.out.far (HO _ _) (fun b hb _ hb' => by omega)⟩, HBB.out.trans ((HO _ _).below HBB.out.size (fun b hb => by omega))⟩
end Go.Proofs.Ytnmoikgobbcifaa
