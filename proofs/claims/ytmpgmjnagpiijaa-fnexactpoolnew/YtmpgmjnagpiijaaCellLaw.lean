/- Contracts for lists of Cells in the laws: laws.toCellS copies one, laws.szCellS counts, laws.eqCellS finds two that read alike equal, laws.markCellS writes marks, laws.heldCellS finds them. Conditions: at most 2^20 of them. -/
import Derived.Test.YtmpgmjnagpiijaaCell
namespace Go.Proofs.Ytmpgmjnagpiijaa
open Go.RowKit
set_option maxRecDepth 100000
set_option linter.unusedSimpArgs false
set_option linter.unusedVariables false

theorem toCell_any (k : CelD) (w : World) : Calls Try.prog 70 #[.agg #[.int .i64 k.a, .bool k.b, .int .i64 k.c]] w fun e w' => e = .returned (.agg #[.int .i64 k.a, .bool k.b, .int .i64 k.c]) ∧ Below w.heap.size w w' := by
  go_enter Try.func70, Try.ntmps70
  go_wp2
  refine bodyPost_ret (v := .agg #[.int .i64 k.a, .bool k.b, .int .i64 k.c]) (by simp [results, Try.results70, go_sem, *]) rfl ⟨rfl, ?_⟩
  exact bal3 _ _ _ _
theorem RowV.cel {w : World} {g n j : Nat} {e : TypeId} {l : List CelD} (h : RowV w g (n * 3) e (celvl l)) (hj : l.length = j) (hk : j < n) (k : CelD) :
    RowV (((w.setCell ⟨g, j * 3, none⟩ (.int .i64 k.a)).setCell ⟨g, j * 3 + 1, none⟩ (.bool k.b)).setCell ⟨g, j * 3 + 2, none⟩ (.int .i64 k.c)) g (n * 3) e (celvl (l ++ [k])) := by
  have hl := celvl_len l
  rw [hj] at hl
  have h1 := h.step (by omega) (.int .i64 k.a)
  have h2 := h1.step (by simp; omega) (.bool k.b)
  have h3 := h2.step (by simp; omega) (.int .i64 k.c)
  simp only [List.length_append, List.length_singleton, hl, List.append_assoc] at h3
  rw [celvl_append, celvl_one]
  exact h3
theorem RowV.rowCel {w : World} {g n : Nat} {l : List CelD} (h : RowV w g (n * 3) 90 (celvl l)) (hl : l.length = n) (hn : n ≤ 2097152) : RowCel w g (.slice (some ⟨g, 0, none⟩) n n) l := by
  obtain ⟨cur, hg, hs, hl2, ht⟩ := h
  subst hl
  refine ⟨celvl_len l, .inr ⟨g, l.length, cur, rfl, Nat.le_refl _, hg, Nat.le_refl _, by unfold maxLen; omega, hs, ?_⟩⟩
  rw [← celvl_len l]
  exact ht
theorem bsCel {w w1 : World} {g i : Nat} {u1 u2 u3 : Value} {B : Nat} (h : Below B w w1) (hg : B ≤ g) : Below B w (((w1.setCell ⟨g, i, none⟩ u1).setCell ⟨g, i + 1, none⟩ u2).setCell ⟨g, i + 2, none⟩ u3) :=
  ((h.setCell (p := ⟨g, i, none⟩) hg _).setCell (p := ⟨g, i + 1, none⟩) hg _).setCell (p := ⟨g, i + 2, none⟩) hg _
theorem toCellS_any (v : Value) (l : List CelD) (w : World) (hv : Reads w w.heap.size v (celsA l)) (hn : l.length ≤ 1048576) : Calls Try.prog 42 #[v] w (NewCel w l) := by
  obtain ⟨A, c, rfl, _, _⟩ := hv.shapeCel
  have hmk := run_makeCel l.length l.length (Nat.le_refl _) (by omega)
  have HT := Lib.hid toCell_any
  go_enter Try.func42, Try.ntmps42
  go_wp2
  go_loopw [4] (fun i wr => ∃ k : Nat, k ≤ l.length ∧ i = .int .i64 k ∧ RowV wr w.heap.size (l.length * 3) 90 (celvl (l.take k)) ∧ Below w.heap.size w wr) (fun i _ => l.length - (intOf i).toNat)
  case atStart => exact ⟨0, Nat.zero_le _, rfl, by have h := RowV.new w (madeCells #[.int .i64 0, .bool false, .int .i64 0] (l.length * 3)) 90; rw [size_madeCells] at h; exact h, (Below.refl _ _).alloc (Nat.le_refl _) _⟩
  case round =>
    obtain ⟨k, hk, rfl, hrow, hb⟩ := hrel
    by_cases hlt : k < l.length
    · obtain ⟨b, off, rfl, hbb, hc⟩ := (hv.on hb).cels hlt
      obtain ⟨c0, c1, c2⟩ := hc k hlt
      have HV := Lib.hid hv
      have hg := hrow.lt
      clear hc hv
      have i1 : (k : Int) < (l.length : Int) := by omega
      have i2 : (0 : Int) ≤ (k : Int) := by omega
      go_wp2_with fail
      refine (HT.out l[k] _).mono ?_
      rintro e w1 ⟨rfl, b1⟩
      have hrow1 := hrow.keep (b1.block _ hg)
      have hb1 := hb.trans (b1.mono hb.size)
      obtain ⟨y0, d0⟩ := hrow1.cell (k := k * 3) (by omega)
      obtain ⟨y1, d1⟩ := hrow1.cell (k := k * 3 + 1) (by omega)
      obtain ⟨y2, d2⟩ := hrow1.cell (k := k * 3 + 2) (by omega)
      have f0 := hrow1.frozen (k * 3)
      have f1 := hrow1.frozen (k * 3 + 1)
      have f2 := hrow1.frozen (k * 3 + 2)
      have HR := Lib.hid (hrow1.cel (j := k) (by simp; omega) hlt l[k])
      have HB := Lib.hid (bsCel (i := k * 3) (u1 := .int .i64 (l[k]).a) (u2 := .bool (l[k]).b) (u3 := .int .i64 (l[k]).c) hb1 (Nat.le_refl w.heap.size))
      clear hrow hrow1 hb1 hb b1 c0 c1 c2
      go_wp2
      go_roundw
      case rel => exact ⟨k + 1, by omega, by go_num, by rw [List.take_succ_eq_append_getElem hlt]; exact HR.out, HB.out⟩
      case measure => simp [intOf]; omega
    · go_wp2
      go_ret
      have e : k = l.length := by omega
      subst e
      rw [List.take_length] at hrow
      exact ⟨_, rfl, hrow.rowCel rfl (by omega), hb⟩
theorem szCellS_any (A : Option Addr) (n c : Nat) (m : Int) (w : World) (hn : n ≤ maxLen) (h1 : 0 ≤ m) (h2 : m ≤ 1048576) :
    Calls Try.prog 38 #[.slice A n c, .int .i64 m] w fun e w' => w = w' ∧ ((e = .returned (.int .i64 (-1)) ∧ m < n) ∨ (e = .returned (.int .i64 (m - n)) ∧ n ≤ m)) := by
  unfold maxLen at hn
  by_cases h : m - (n : Int) < 0
  · go_enter Try.func38, Try.ntmps38
    go_wp2
    go_ret
    exact ⟨rfl, .inl ⟨rfl, by omega⟩⟩
  · go_enter Try.func38, Try.ntmps38
    go_wp2
    go_ret
    exact ⟨rfl, .inr ⟨rfl, by omega⟩⟩
theorem szCel_small (A : Option Addr) (n c : Nat) (w : World) (hn : n ≤ 1048576) (m : Int) (h1 : (n : Int) ≤ m) (h2 : m ≤ 1048576) : Calls Try.prog 38 #[.slice A n c, .int .i64 m] w fun e w' => e = .returned (.int .i64 (m - n)) ∧ w = w' := by
  refine (szCellS_any A n c m w (by unfold maxLen; omega) (by omega) h2).mono ?_
  rintro r w1 ⟨rfl, h | h⟩
  · omega
  · exact ⟨h.1, rfl⟩
theorem szCel_big (A : Option Addr) (n c : Nat) (w : World) (hn : n ≤ maxLen) (m : Int) (h1 : m < (n : Int)) (h0 : 0 ≤ m) (h2 : m ≤ 1048576) : Calls Try.prog 38 #[.slice A n c, .int .i64 m] w fun e w' => e = .returned (.int .i64 (-1)) ∧ w = w' := by
  refine (szCellS_any A n c m w hn h0 h2).mono ?_
  rintro r w1 ⟨rfl, h | h⟩
  · exact ⟨h.1, rfl⟩
  · omega
theorem eqCell_same (k : CelD) (w : World) : Calls Try.prog 57 #[.agg #[.int .i64 k.a, .bool k.b, .int .i64 k.c], .agg #[.int .i64 k.a, .bool k.b, .int .i64 k.c]] w (SaysBool w true) := by
  go_enter Try.func57, Try.ntmps57
  go_wp2
  go_ret
  exact ⟨rfl, bal2 _ _ _⟩
theorem CelF.and {w : World} {b o : Nat} {k : CelD} (h : CelF w b o k) {P : Prop} (p : P) : w.cell? ⟨b, o, none⟩ = some (.int .i64 k.a) ∧ w.cell? ⟨b, o + 1, none⟩ = some (.bool k.b) ∧ w.cell? ⟨b, o + 2, none⟩ = some (.int .i64 k.c) ∧ P := ⟨h.1, h.2.1, h.2.2, p⟩
set_option maxHeartbeats 1000000 in
theorem eqCellS_same {t t' : TypeId} (v u : Value) (l : List CelD) (w : World) (hv : Reads w w.heap.size v (celsT t l)) (hu : Reads w w.heap.size u (celsT t' l)) (hn : l.length ≤ 2097152) :
    Calls Try.prog 26 #[v, u] w (SaysBool w true) := by
  obtain ⟨A, c, rfl, _, _⟩ := hv.shapeCel
  obtain ⟨A', c', rfl, _, _⟩ := hu.shapeCel
  have HT := Lib.hid eqCell_same
  have HV := Lib.hid hv
  have HU := Lib.hid hu
  clear hv hu
  have hne : (((l.length : Nat) : Int) != ((l.length : Nat) : Int)) = false := by simp
  go_enter Try.func26, Try.ntmps26
  go_wp2
  go_loopw [5] (fun i wr => ∃ k : Nat, k ≤ l.length ∧ i = .int .i64 k ∧ Below w.heap.size w wr) (fun i _ => l.length - (intOf i).toNat)
  case atStart => exact ⟨0, Nat.zero_le _, rfl, Below.refl _ _⟩
  case round =>
    obtain ⟨k, hk, rfl, hb⟩ := hrel
    by_cases hlt : k < l.length
    · obtain ⟨b, off, rfl, hbb, hc⟩ := (HV.out.on hb).cels hlt
      obtain ⟨b', off', rfl, hbb', hc'⟩ := (HU.out.on hb).cels hlt
      have F := Lib.hid (hc k hlt)
      have F' := Lib.hid (hc' k hlt)
      have i1 : (k : Int) < (l.length : Int) := by omega
      have i2 : (0 : Int) ≤ (k : Int) := by omega
      clear hc hc'
      obtain ⟨c0, c1, c2⟩ := F.out
      obtain ⟨d0, d1, d2⟩ := F'.out
      have HB := Lib.hid hb
      clear hb
      go_wp2
      go_region_held3 (fun W => W.cell? ⟨b, off + k * 3, none⟩ = some (.int .i64 (l[k]).a) ∧ W.cell? ⟨b, off + k * 3 + 1, none⟩ = some (.bool (l[k]).b) ∧ W.cell? ⟨b, off + k * 3 + 2, none⟩ = some (.int .i64 (l[k]).c) ∧ W.cell? ⟨b', off' + k * 3, none⟩ = some (.int .i64 (l[k]).a) ∧ W.cell? ⟨b', off' + k * 3 + 1, none⟩ = some (.bool (l[k]).b) ∧ W.cell? ⟨b', off' + k * 3 + 2, none⟩ = some (.int .i64 (l[k]).c))
        (first | with_reducible exact (F.out.on hbb B8).and (F'.out.on hbb' B8) | with_reducible exact (F.out.on hbb (Below.drew1 _)).and (F'.out.on hbb' (Below.drew1 _)) | exact F.out.and F'.out | fail)
        (first
          | (go_at_call 57; refine (HT.out l[k] _).mono ?_; rintro r w8 ⟨rfl, b8⟩; have B8 := bstep (Below.drew1 _) b8)
          | fail)
      all_goals
        have BC := Lib.hid (bstep HB.out B8)
        clear B8 b8 c0 c1 c2 d0 d1 d2
        go_wp2
        go_roundw
        case rel => exact ⟨k + 1, by omega, by go_num, BC.out⟩
        case measure => simp [intOf]; omega
    · go_wp2
      go_ret
      exact ⟨rfl, hb⟩
def mCel (k : Int) (_ : CelD) : CelD := ⟨k, ((k + 1).tmod 3 == 0), k + 1 + 1⟩
def sCel (_ : CelD) : Nat := 3
theorem totCel (l : List CelD) (i : Nat) (h : i ≤ l.length) : totL sCel l i = i * 3 := by
  induction i with
  | zero => cases l <;> rfl
  | succ i ih => rw [totL_succ sCel l i (by omega), ih (by omega)]; simp [sCel, Nat.add_mul]
theorem celvl_set (l : List CelD) (i : Nat) (k : CelD) (h : i < l.length) : celvl (l.set i k) = (((celvl l).set (i * 3) (.int .i64 k.a)).set (i * 3 + 1) (.bool k.b)).set (i * 3 + 2) (.int .i64 k.c) := by
  induction l generalizing i with
  | nil => simp at h
  | cons x l ih =>
    cases i with
    | zero => simp [celvl_cons, celX]
    | succ i =>
      have h := ih i (by simpa using h)
      rw [List.set_cons_succ, celvl_cons, h, celvl_cons, show (i + 1) * 3 = i * 3 + 1 + 1 + 1 by omega]
      simp [celX]
/-- Block g of w holds the list in a row of room for cap. -/
def RwCel (t : TypeId) (w : World) (g cap : Nat) (l : List CelD) : Prop := Rw w g t 3 l.length cap (celvl l)
theorem RwCel.cs {t : TypeId} {w : World} {g cap : Nat} {l : List CelD} (h : RwCel t w g cap l) {i : Nat} (hi : i < l.length) : ∀ j, j < 3 → ∃ v, w.cell? ⟨g, i * 3 + j, none⟩ = some v := by
  intro j hj
  have hl := celvl_len l
  exact ⟨_, Rw.cell h (i := i * 3 + j) (by omega)⟩
theorem RwCel.set {t : TypeId} {w : World} {g cap : Nat} {l : List CelD} (h : RwCel t w g cap l) {i : Nat} (hi : i < l.length) (k : CelD) : RwCel t (((w.setCell ⟨g, i * 3, none⟩ (.int .i64 k.a)).setCell ⟨g, i * 3 + 1, none⟩ (.bool k.b)).setCell ⟨g, i * 3 + 2, none⟩ (.int .i64 k.c)) g cap (l.set i k) := by
  have h5 := ((Rw.set h (i * 3) (.int .i64 k.a)).set (i * 3 + 1) (.bool k.b)).set (i * 3 + 2) (.int .i64 k.c)
  unfold RwCel
  rw [List.length_set, celvl_set l i k hi]
  exact h5
theorem RwCel.owns {t : TypeId} {w : World} {S : Nat → Prop} {g cap : Nat} {l : List CelD} (h : RwCel t w g cap l) (hS : S g) (hn : l.length ≤ cap) (hc : cap ≤ maxLen) : Owns w S (.slice (some ⟨g, 0, none⟩) l.length cap) (celsT t l) :=
  Rw.owns h hS (by rw [celC_map]; exact lits_own _ _ _) hn hc (cels_len l)
theorem Owns.rwCel {t : TypeId} {w : World} {S : Nat → Prop} {v : Value} {l : List CelD} (h : Owns w S v (celsT t l)) : (v = .slice none 0 0 ∧ l = []) ∨ ∃ g cap, v = .slice (some ⟨g, 0, none⟩) l.length cap ∧ S g ∧ RwCel t w g cap l ∧ l.length ≤ cap ∧ cap ≤ maxLen := by
  rcases h.rw' with ⟨rfl, h, _⟩ | ⟨g, cap, xs, rfl, hS, hR, hn, hc, hl, hx, ho⟩
  · exact .inl ⟨rfl, List.length_eq_zero_iff.1 h⟩
  · have hr := ho.reads
    rw [celC_map] at hr
    have : xs = celvl l := lit_reads (by rw [hr.1]; simp) hr.2
    subst this
    exact .inr ⟨g, cap, rfl, hS, hR, hn, hc⟩
def MarkedCel (t : TypeId) (w : World) (S : Nat → Prop) (v : Value) (k : Int) (l : List CelD) (e : Ending) (w' : World) : Prop := e = .returned (.int .i64 (k + (l.length * 3 : Nat))) ∧ Owns w' S v (celsT t (mkL mCel sCel k l l.length)) ∧ Only S w w'
theorem osCel {S : Nat → Prop} {w w1 : World} {g i : Nat} {u1 u2 u3 : Value} (h : Only S w w1) (hg : S g) : Only S w (((w1.setCell ⟨g, i, none⟩ u1).setCell ⟨g, i + 1, none⟩ u2).setCell ⟨g, i + 2, none⟩ u3) :=
  ((h.setCell hg _).setCell hg _).setCell hg _
set_option maxHeartbeats 1000000 in
theorem markCellS_any {t : TypeId} (v : Value) (S : Nat → Prop) (l : List CelD) (k : Int) (w : World) (hv : Owns w S v (celsT t l)) (hn : l.length ≤ 2097152) (h0 : 0 ≤ k) (h1 : k ≤ 1125899906842624) :
    Calls Try.prog 30 #[v, .int .i64 k] w (MarkedCel t w S v k l) := by
  rcases hv.rwCel with ⟨rfl, rfl⟩ | ⟨g, cap, rfl, hS, hR, hcap, hmax⟩
  · go_enter Try.func30, Try.ntmps30
    go_wp2
    go_loopw [1, 5] (fun q i wr => i = .int .i64 0 ∧ q = .int .i64 k ∧ w = wr) (fun _ _ _ => 0)
    case atStart => exact ⟨rfl, rfl, rfl⟩
    case round =>
      obtain ⟨rfl, rfl, rfl⟩ := hrel
      go_wp2
      go_ret
      exact ⟨by simp, .nil _ _ _, Only.refl _ _⟩
  · clear hv
    go_enter Try.func30, Try.ntmps30
    go_wp2
    go_loopw [1, 5] (fun q i wr => ∃ j : Nat, j ≤ l.length ∧ i = .int .i64 j ∧ q = .int .i64 (k + (j * 3 : Nat)) ∧ Hid (RwCel t wr g cap (mkL mCel sCel k l j)) ∧ Hid (Only S w wr)) (fun _ i _ => l.length - (intOf i).toNat)
    case atStart => exact ⟨0, Nat.zero_le _, rfl, by simp, Lib.hid (by rw [mkL_zero]; exact hR), Lib.hid (Only.refl _ _)⟩
    case round =>
      clear hR
      obtain ⟨j, hj, rfl, rfl, HR, HO⟩ := hrel
      by_cases hlt : j < l.length
      · have hlm : j < (mkL mCel sCel k l j).length := by rw [mkL_length]; exact hlt
        obtain ⟨y0, d0⟩ := HR.out.cs hlm 0 (by omega)
        obtain ⟨y1, d1⟩ := HR.out.cs hlm 1 (by omega)
        obtain ⟨y2, d2⟩ := HR.out.cs hlm 2 (by omega)
        rw [Nat.add_zero] at d0
        have f0 := Rw.frozen HR.out (j * 3)
        have f1 := Rw.frozen HR.out (j * 3 + 1)
        have f2 := Rw.frozen HR.out (j * 3 + 2)
        have hs := HR.out.set hlm (mCel (k + (j * 3 : Nat)) l[j])
        rw [show (mkL mCel sCel k l j).set j (mCel (k + (j * 3 : Nat)) l[j]) = mkL mCel sCel k l (j + 1) by rw [mkL_succ _ _ _ _ _ hlt, totCel l j hj]] at hs
        have HS := Lib.hid hs
        have HO2 := Lib.hid (osCel (i := j * 3) (u1 := .int .i64 (k + (j * 3 : Nat))) (u2 := .bool ((k + (j * 3 : Nat) + 1).tmod 3 == 0)) (u3 := .int .i64 (k + (j * 3 : Nat) + 1 + 1)) HO.out hS)
        have i1 : (j : Int) < (l.length : Int) := by omega
        have i2 : (0 : Int) ≤ (j : Int) := by omega
        clear HR HO hlm hs
        have HQ : Hid (k + ((j + 1) * 3 : Nat) = k + (j * 3 : Nat) + 1 + 1 + 1) := Lib.hid (by omega)
        have q0 : 0 ≤ k + ((j * 3 : Nat) : Int) := by omega
        have q1 : k + ((j * 3 : Nat) : Int) ≤ 1125899917328384 := by omega
        generalize k + ((j * 3 : Nat) : Int) = q at *
        have HT2 : Hid ((q + 1).tmod 3 = (q + 1) % 3) := Lib.hid (Int.tmod_eq_emod_of_nonneg (by omega))
        have HT : Hid ((mCel q l[j]).b = ((q + 1) % 3 == 0)) := Lib.hid (by unfold mCel; rw [HT2.out])
        go_wp2
        go_roundw
        case rel =>
          exact ⟨j + 1, by omega, by go_num, by rw [HQ.out], Lib.hid (by have h := HS.out; rw [HT.out] at h; exact h), Lib.hid (by have h := HO2.out; rw [HT2.out] at h; exact h)⟩
        case measure => simp [intOf]; omega
      · go_wp2
        go_ret
        have e : j = l.length := by omega
        subst e
        refine ⟨rfl, ?_, HO.out⟩
        have h := HR.out.owns hS (by rw [mkL_length]; exact hcap) hmax
        rw [mkL_length] at h
        exact h
set_option maxHeartbeats 1000000 in
theorem heldCellS_any {t : TypeId} (v : Value) (l : List CelD) (k : Int) (w : World) (hv : Reads w w.heap.size v (celsT t (mkL mCel sCel k l l.length))) (hn : l.length ≤ 2097152) (h0 : 0 ≤ k) (h1 : k ≤ 1125899906842624) :
    Calls Try.prog 34 #[v, .int .i64 k] w fun e w' => e = .returned (.int .i64 (k + (l.length * 3 : Nat))) ∧ w = w' := by
  obtain ⟨A, c, rfl, _, _⟩ := hv.shapeCel
  rw [mkL_length]
  have HV := Lib.hid hv
  clear hv
  go_enter Try.func34, Try.ntmps34
  go_wp2
  go_loop [1, 5] (fun q i => ∃ j : Nat, j ≤ l.length ∧ i = .int .i64 j ∧ q = .int .i64 (k + (j * 3 : Nat))) (fun _ i => l.length - (intOf i).toNat)
  case atStart => exact ⟨0, Nat.zero_le _, rfl, by simp⟩
  case round =>
    obtain ⟨j, hj, rfl, rfl⟩ := hrel
    by_cases hlt : j < l.length
    · have hlm : j < (mkL mCel sCel k l l.length).length := by rw [mkL_length]; exact hlt
      obtain ⟨b, off, rfl, hbb, hc⟩ := HV.out.cels hlm
      have F := hc j hlm
      rw [mkL_get _ _ _ _ _ _ hlt hlt, totCel l j hj] at F
      have HQ : Hid (k + ((j + 1) * 3 : Nat) = k + (j * 3 : Nat) + 1 + 1 + 1) := Lib.hid (by omega)
      have q0 : 0 ≤ k + ((j * 3 : Nat) : Int) := by omega
      have q1 : k + ((j * 3 : Nat) : Int) ≤ 1125899917328384 := by omega
      have i1 : (j : Int) < (l.length : Int) := by omega
      have i2 : (0 : Int) ≤ (j : Int) := by omega
      clear hc hlm
      generalize k + ((j * 3 : Nat) : Int) = q at *
      obtain ⟨c0, c1, c2⟩ := F
      unfold mCel at c0 c1 c2
      have n0 : (q != q) = false := by simp
      have n1 : (((q + 1).tmod 3 == 0) != ((q + 1).tmod 3 == 0)) = false := by simp
      have n2 : (q + 1 + 1 != q + 1 + 1) = false := by simp
      go_wp2
      go_round
      case rel => exact ⟨j + 1, by omega, by go_num, by rw [HQ.out]⟩
      case measure => simp [intOf]; omega
    · go_wp2
      go_ret
      have e : j = l.length := by omega
      subst e
      exact ⟨rfl, rfl⟩
end Go.Proofs.Ytmpgmjnagpiijaa
