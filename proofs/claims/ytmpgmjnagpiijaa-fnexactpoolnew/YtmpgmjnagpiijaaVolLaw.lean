/- Contracts for lists of Volumes in the laws: laws.toVolS copies one, laws.szVolS counts, laws.eqVolS finds two that read alike equal, laws.markVolS writes marks, laws.heldVolS finds them. Conditions: at most 2^20 of them. -/
import Derived.Test.YtmpgmjnagpiijaaVol
import Derived.Test.YtmpgmjnagpiijaaMarkText
namespace Go.Proofs.Ytmpgmjnagpiijaa
open Go.RowKit
set_option maxRecDepth 100000
set_option linter.unusedSimpArgs false
set_option linter.unusedVariables false

theorem toVol_any (k : VolD) (w : World) : Calls Try.prog 71 #[.agg #[.string k.a, .int .i64 k.b, .int .i64 k.c, .bool k.d]] w fun e w' => e = .returned (.agg #[.string k.a, .int .i64 k.b, .int .i64 k.c, .bool k.d]) ∧ Below w.heap.size w w' := by
  go_enter Try.func71, Try.ntmps71
  go_wp2
  refine bodyPost_ret (v := .agg #[.string k.a, .int .i64 k.b, .int .i64 k.c, .bool k.d]) (by simp [results, Try.results71, go_sem, *]) rfl ⟨rfl, ?_⟩
  exact bal3 _ _ _ _
theorem RowV.vol {w : World} {g n j : Nat} {e : TypeId} {l : List VolD} (h : RowV w g (n * 4) e (volvl l)) (hj : l.length = j) (hk : j < n) (k : VolD) :
    RowV ((((w.setCell ⟨g, j * 4, none⟩ (.string k.a)).setCell ⟨g, j * 4 + 1, none⟩ (.int .i64 k.b)).setCell ⟨g, j * 4 + 2, none⟩ (.int .i64 k.c)).setCell ⟨g, j * 4 + 3, none⟩ (.bool k.d)) g (n * 4) e (volvl (l ++ [k])) := by
  have hl := volvl_len l
  rw [hj] at hl
  have h1 := h.step (by omega) (.string k.a)
  have h2 := h1.step (by simp; omega) (.int .i64 k.b)
  have h3 := h2.step (by simp; omega) (.int .i64 k.c)
  have h4 := h3.step (by simp; omega) (.bool k.d)
  simp only [List.length_append, List.length_singleton, hl, List.append_assoc] at h4
  rw [volvl_append, volvl_one]
  exact h4
theorem RowV.rowVol {w : World} {g n : Nat} {l : List VolD} (h : RowV w g (n * 4) 66 (volvl l)) (hl : l.length = n) (hn : n ≤ 2097152) : RowVol w g (.slice (some ⟨g, 0, none⟩) n n) l := by
  obtain ⟨cur, hg, hs, hl2, ht⟩ := h
  subst hl
  refine ⟨volvl_len l, .inr ⟨g, l.length, cur, rfl, Nat.le_refl _, hg, Nat.le_refl _, by unfold maxLen; omega, hs, ?_⟩⟩
  rw [← volvl_len l]
  exact ht
theorem bsVol {w w1 : World} {g i : Nat} {u1 u2 u3 u4 : Value} {B : Nat} (h : Below B w w1) (hg : B ≤ g) : Below B w ((((w1.setCell ⟨g, i, none⟩ u1).setCell ⟨g, i + 1, none⟩ u2).setCell ⟨g, i + 2, none⟩ u3).setCell ⟨g, i + 3, none⟩ u4) :=
  (((h.setCell (p := ⟨g, i, none⟩) hg _).setCell (p := ⟨g, i + 1, none⟩) hg _).setCell (p := ⟨g, i + 2, none⟩) hg _).setCell (p := ⟨g, i + 3, none⟩) hg _
theorem toVolS_any (v : Value) (l : List VolD) (w : World) (hv : Reads w w.heap.size v (volsA l)) (hn : l.length ≤ 1048576) : Calls Try.prog 43 #[v] w (NewVol w l) := by
  obtain ⟨A, c, rfl, _, _⟩ := hv.shapeVol
  have hmk := run_makeVol l.length l.length (Nat.le_refl _) (by omega)
  have HT := Lib.hid toVol_any
  go_enter Try.func43, Try.ntmps43
  go_wp2
  go_loopw [4] (fun i wr => ∃ k : Nat, k ≤ l.length ∧ i = .int .i64 k ∧ RowV wr w.heap.size (l.length * 4) 66 (volvl (l.take k)) ∧ Below w.heap.size w wr) (fun i _ => l.length - (intOf i).toNat)
  case atStart => exact ⟨0, Nat.zero_le _, rfl, by have h := RowV.new w (madeCells #[.string ⟨#[]⟩, .int .i64 0, .int .i64 0, .bool false] (l.length * 4)) 66; rw [size_madeCells] at h; exact h, (Below.refl _ _).alloc (Nat.le_refl _) _⟩
  case round =>
    obtain ⟨k, hk, rfl, hrow, hb⟩ := hrel
    by_cases hlt : k < l.length
    · obtain ⟨b, off, rfl, hbb, hc⟩ := (hv.on hb).vols hlt
      obtain ⟨c0, c1, c2, c3⟩ := hc k hlt
      have HV := Lib.hid hv
      have hg := hrow.lt
      clear hc hv
      have i1 : (k : Int) < (l.length : Int) := by omega
      have i2 : (0 : Int) ≤ (k : Int) := by omega
      go_wp2_with fail
      refine (HT.out l[k] _).mono ?_
      rintro e w1 ⟨rfl, b1⟩
      have hrow1 := hrow.keep (b1.block _ hg)
      have hb1 := hb.trans (b1.mono hb.size)
      obtain ⟨y0, d0⟩ := hrow1.cell (k := k * 4) (by omega)
      obtain ⟨y1, d1⟩ := hrow1.cell (k := k * 4 + 1) (by omega)
      obtain ⟨y2, d2⟩ := hrow1.cell (k := k * 4 + 2) (by omega)
      obtain ⟨y3, d3⟩ := hrow1.cell (k := k * 4 + 3) (by omega)
      have f0 := hrow1.frozen (k * 4)
      have f1 := hrow1.frozen (k * 4 + 1)
      have f2 := hrow1.frozen (k * 4 + 2)
      have f3 := hrow1.frozen (k * 4 + 3)
      have HR := Lib.hid (hrow1.vol (j := k) (by simp; omega) hlt l[k])
      have HB := Lib.hid (bsVol (i := k * 4) (u1 := .string (l[k]).a) (u2 := .int .i64 (l[k]).b) (u3 := .int .i64 (l[k]).c) (u4 := .bool (l[k]).d) hb1 (Nat.le_refl w.heap.size))
      clear hrow hrow1 hb1 hb b1 c0 c1 c2 c3
      go_wp2
      go_roundw
      case rel => exact ⟨k + 1, by omega, by go_num, by rw [List.take_succ_eq_append_getElem hlt]; exact HR.out, HB.out⟩
      case measure => simp [intOf]; omega
    · go_wp2
      go_ret
      have e : k = l.length := by omega
      subst e
      rw [List.take_length] at hrow
      exact ⟨_, rfl, hrow.rowVol rfl (by omega), hb⟩
/-- What szVolS counts: the list's length and its names' bytes. -/
def sumV : List VolD → Nat
  | [] => 0
  | k :: l => k.a.size + sumV l
theorem sumV_drop {l : List VolD} {k : Nat} (h : k < l.length) : sumV (l.drop k) = (l[k]).a.size + sumV (l.drop (k + 1)) := by
  rw [vol_drop h, sumV]
theorem szVol_any (k : VolD) (m : Int) (w : World) (hn : k.a.size ≤ maxLen) (h1 : 0 ≤ m) (h2 : m ≤ 1048576) :
    Calls Try.prog 66 #[.agg #[.string k.a, .int .i64 k.b, .int .i64 k.c, .bool k.d], .int .i64 m] w fun e w' => Below w.heap.size w w' ∧ ((e = .returned (.int .i64 (-1)) ∧ m < k.a.size) ∨ (e = .returned (.int .i64 (m - k.a.size)) ∧ k.a.size ≤ m)) := by
  unfold maxLen at hn
  by_cases h : m - (k.a.size : Int) < 0
  · go_enter Try.func66, Try.ntmps66
    go_wp2
    go_ret
    exact ⟨bal1 _ _, .inl ⟨rfl, by omega⟩⟩
  · go_enter Try.func66, Try.ntmps66
    go_wp2
    go_ret
    exact ⟨bal1 _ _, .inr ⟨rfl, by omega⟩⟩
theorem szVolS_any (v : Value) (l : List VolD) (m : Int) (w : World) (hv : Reads w w.heap.size v (volsA l)) (hs : ∀ k ∈ l, k.a.size ≤ maxLen) (h1 : 0 ≤ m) (h2 : m ≤ 1048576) :
    Calls Try.prog 39 #[v, .int .i64 m] w fun e w' => Below w.heap.size w w' ∧ ((e = .returned (.int .i64 (-1)) ∧ m < l.length + sumV l) ∨ (e = .returned (.int .i64 (m - (l.length + sumV l : Nat))) ∧ l.length + sumV l ≤ m)) := by
  obtain ⟨A, c, rfl, hn1, hn2⟩ := hv.shapeVol
  have HN : Hid (l.length ≤ maxLen) := Lib.hid (by omega)
  have hln : l.length ≤ 9223372036854775807 := by have := HN.out; unfold maxLen at this; omega
  have HT := Lib.hid szVol_any
  have HS := Lib.hid hs
  have HV := Lib.hid hv
  clear hv hs hn1 hn2
  by_cases h : m - (l.length : Int) < 0
  · go_enter Try.func39, Try.ntmps39
    go_wp2
    go_ret
    exact ⟨Below.refl _ _, .inl ⟨rfl, by omega⟩⟩
  · go_enter Try.func39, Try.ntmps39
    go_wp2
    go_loopw [1, 5] (fun q i wr => ∃ (k : Nat) (x : Int), k ≤ l.length ∧ i = .int .i64 k ∧ q = .int .i64 x ∧ 0 ≤ x ∧ x ≤ 1048576 ∧ Hid (m - (l.length + sumV l : Nat) = x - (sumV (l.drop k) : Nat)) ∧ Below w.heap.size w wr) (fun _ i _ => l.length - (intOf i).toNat)
    case atStart => exact ⟨0, m - l.length, Nat.zero_le _, rfl, rfl, by omega, by omega, Lib.hid (by simp; omega), Below.refl _ _⟩
    case round =>
      obtain ⟨k, x, hk, rfl, rfl, x0, x1, HX, hb⟩ := hrel
      by_cases hlt : k < l.length
      · obtain ⟨b, off, rfl, hbb, hc⟩ := (HV.out.on hb).vols hlt
        obtain ⟨c0, c1, c2, c3⟩ := hc k hlt
        have HD := Lib.hid (sumV_drop hlt)
        have hz := HS.out l[k] (List.getElem_mem hlt)
        have i1 : (k : Int) < (l.length : Int) := by omega
        have i2 : (0 : Int) ≤ (k : Int) := by omega
        clear hc
        go_wp2_with fail
        refine (HT.out l[k] x _ hz x0 x1).mono ?_
        rintro e w1 ⟨b1, ⟨rfl, h5⟩ | ⟨rfl, h5⟩⟩
        · have B1 := Lib.hid (hb.trans (b1.mono hb.size))
          clear hb b1
          go_wp2
          go_ret
          exact ⟨B1.out, .inl ⟨rfl, by have := HX.out; have := HD.out; omega⟩⟩
        · have B1 := Lib.hid (hb.trans (b1.mono hb.size))
          have i3 : ¬ (x - ((l[k]).a.size : Int) < 0) := by omega
          clear hb b1
          go_wp2
          go_roundw
          case rel => exact ⟨k + 1, x - ((l[k]).a.size : Int), by omega, by go_num, rfl, by omega, by omega, Lib.hid (by have := HX.out; have := HD.out; omega), B1.out⟩
          case measure => simp [intOf]; omega
      · have e : k = l.length := by omega
        subst e
        have H2 : Hid (m - (l.length + sumV l : Nat) = x) := Lib.hid (by have := HX.out; simp [sumV] at this; simp; omega)
        go_wp2
        go_ret
        exact ⟨hb, .inr ⟨by rw [H2.out]; rfl, by have := H2.out; omega⟩⟩
theorem eqVol_same (k : VolD) (w : World) : Calls Try.prog 58 #[.agg #[.string k.a, .int .i64 k.b, .int .i64 k.c, .bool k.d], .agg #[.string k.a, .int .i64 k.b, .int .i64 k.c, .bool k.d]] w (SaysBool w true) := by
  go_enter Try.func58, Try.ntmps58
  go_wp2
  go_ret
  exact ⟨rfl, bal2 _ _ _⟩
theorem VolF.and {w : World} {b o : Nat} {k : VolD} (h : VolF w b o k) {P : Prop} (p : P) : w.cell? ⟨b, o, none⟩ = some (.string k.a) ∧ w.cell? ⟨b, o + 1, none⟩ = some (.int .i64 k.b) ∧ w.cell? ⟨b, o + 2, none⟩ = some (.int .i64 k.c) ∧ w.cell? ⟨b, o + 3, none⟩ = some (.bool k.d) ∧ P := ⟨h.1, h.2.1, h.2.2.1, h.2.2.2, p⟩
set_option maxHeartbeats 1000000 in
theorem eqVolS_same {t t' : TypeId} (v u : Value) (l : List VolD) (w : World) (hv : Reads w w.heap.size v (volsT t l)) (hu : Reads w w.heap.size u (volsT t' l)) (hn : l.length ≤ 2097152) :
    Calls Try.prog 27 #[v, u] w (SaysBool w true) := by
  obtain ⟨A, c, rfl, _, _⟩ := hv.shapeVol
  obtain ⟨A', c', rfl, _, _⟩ := hu.shapeVol
  have HT := Lib.hid eqVol_same
  have HV := Lib.hid hv
  have HU := Lib.hid hu
  clear hv hu
  have hne : (((l.length : Nat) : Int) != ((l.length : Nat) : Int)) = false := by simp
  go_enter Try.func27, Try.ntmps27
  go_wp2
  go_loopw [5] (fun i wr => ∃ k : Nat, k ≤ l.length ∧ i = .int .i64 k ∧ Below w.heap.size w wr) (fun i _ => l.length - (intOf i).toNat)
  case atStart => exact ⟨0, Nat.zero_le _, rfl, Below.refl _ _⟩
  case round =>
    obtain ⟨k, hk, rfl, hb⟩ := hrel
    by_cases hlt : k < l.length
    · obtain ⟨b, off, rfl, hbb, hc⟩ := (HV.out.on hb).vols hlt
      obtain ⟨b', off', rfl, hbb', hc'⟩ := (HU.out.on hb).vols hlt
      have F := Lib.hid (hc k hlt)
      have F' := Lib.hid (hc' k hlt)
      have i1 : (k : Int) < (l.length : Int) := by omega
      have i2 : (0 : Int) ≤ (k : Int) := by omega
      clear hc hc'
      obtain ⟨c0, c1, c2, c3⟩ := F.out
      obtain ⟨d0, d1, d2, d3⟩ := F'.out
      have HB := Lib.hid hb
      clear hb
      go_wp2
      go_region_held3 (fun W => W.cell? ⟨b, off + k * 4, none⟩ = some (.string (l[k]).a) ∧ W.cell? ⟨b, off + k * 4 + 1, none⟩ = some (.int .i64 (l[k]).b) ∧ W.cell? ⟨b, off + k * 4 + 2, none⟩ = some (.int .i64 (l[k]).c) ∧ W.cell? ⟨b, off + k * 4 + 3, none⟩ = some (.bool (l[k]).d) ∧ W.cell? ⟨b', off' + k * 4, none⟩ = some (.string (l[k]).a) ∧ W.cell? ⟨b', off' + k * 4 + 1, none⟩ = some (.int .i64 (l[k]).b) ∧ W.cell? ⟨b', off' + k * 4 + 2, none⟩ = some (.int .i64 (l[k]).c) ∧ W.cell? ⟨b', off' + k * 4 + 3, none⟩ = some (.bool (l[k]).d))
        (first | with_reducible exact (F.out.on hbb B8).and (F'.out.on hbb' B8) | with_reducible exact (F.out.on hbb (Below.drew1 _)).and (F'.out.on hbb' (Below.drew1 _)) | exact F.out.and F'.out | fail)
        (first
          | (go_at_call 58; refine (HT.out l[k] _).mono ?_; rintro r w8 ⟨rfl, b8⟩; have B8 := bstep (Below.drew1 _) b8)
          | fail)
      all_goals
        have BC := Lib.hid (bstep HB.out B8)
        clear B8 b8 c0 c1 c2 c3 d0 d1 d2 d3
        go_wp2
        go_roundw
        case rel => exact ⟨k + 1, by omega, by go_num, BC.out⟩
        case measure => simp [intOf]; omega
    · go_wp2
      go_ret
      exact ⟨rfl, hb⟩
def mVol (k : Int) (_ : VolD) : VolD := ⟨markT (k), k + 1, k + 1 + 1, ((k + 1 + 1 + 1).tmod 3 == 0)⟩
def sVol (_ : VolD) : Nat := 4
theorem totVol (l : List VolD) (i : Nat) (h : i ≤ l.length) : totL sVol l i = i * 4 := by
  induction i with
  | zero => cases l <;> rfl
  | succ i ih => rw [totL_succ sVol l i (by omega), ih (by omega)]; simp [sVol, Nat.add_mul]
theorem volvl_set (l : List VolD) (i : Nat) (k : VolD) (h : i < l.length) : volvl (l.set i k) = ((((volvl l).set (i * 4) (.string k.a)).set (i * 4 + 1) (.int .i64 k.b)).set (i * 4 + 2) (.int .i64 k.c)).set (i * 4 + 3) (.bool k.d) := by
  induction l generalizing i with
  | nil => simp at h
  | cons x l ih =>
    cases i with
    | zero => simp [volvl_cons, volX]
    | succ i =>
      have h := ih i (by simpa using h)
      rw [List.set_cons_succ, volvl_cons, h, volvl_cons, show (i + 1) * 4 = i * 4 + 1 + 1 + 1 + 1 by omega]
      simp [volX]
/-- Block g of w holds the list in a row of room for cap. -/
def RwVol (t : TypeId) (w : World) (g cap : Nat) (l : List VolD) : Prop := Rw w g t 4 l.length cap (volvl l)
theorem RwVol.cs {t : TypeId} {w : World} {g cap : Nat} {l : List VolD} (h : RwVol t w g cap l) {i : Nat} (hi : i < l.length) : ∀ j, j < 4 → ∃ v, w.cell? ⟨g, i * 4 + j, none⟩ = some v := by
  intro j hj
  have hl := volvl_len l
  exact ⟨_, Rw.cell h (i := i * 4 + j) (by omega)⟩
theorem RwVol.set {t : TypeId} {w : World} {g cap : Nat} {l : List VolD} (h : RwVol t w g cap l) {i : Nat} (hi : i < l.length) (k : VolD) : RwVol t ((((w.setCell ⟨g, i * 4, none⟩ (.string k.a)).setCell ⟨g, i * 4 + 1, none⟩ (.int .i64 k.b)).setCell ⟨g, i * 4 + 2, none⟩ (.int .i64 k.c)).setCell ⟨g, i * 4 + 3, none⟩ (.bool k.d)) g cap (l.set i k) := by
  have h5 := (((Rw.set h (i * 4) (.string k.a)).set (i * 4 + 1) (.int .i64 k.b)).set (i * 4 + 2) (.int .i64 k.c)).set (i * 4 + 3) (.bool k.d)
  unfold RwVol
  rw [List.length_set, volvl_set l i k hi]
  exact h5
theorem RwVol.owns {t : TypeId} {w : World} {S : Nat → Prop} {g cap : Nat} {l : List VolD} (h : RwVol t w g cap l) (hS : S g) (hn : l.length ≤ cap) (hc : cap ≤ maxLen) : Owns w S (.slice (some ⟨g, 0, none⟩) l.length cap) (volsT t l) :=
  Rw.owns h hS (by rw [volC_map]; exact lits_own _ _ _) hn hc (vols_len l)
theorem Owns.rwVol {t : TypeId} {w : World} {S : Nat → Prop} {v : Value} {l : List VolD} (h : Owns w S v (volsT t l)) : (v = .slice none 0 0 ∧ l = []) ∨ ∃ g cap, v = .slice (some ⟨g, 0, none⟩) l.length cap ∧ S g ∧ RwVol t w g cap l ∧ l.length ≤ cap ∧ cap ≤ maxLen := by
  rcases h.rw' with ⟨rfl, h, _⟩ | ⟨g, cap, xs, rfl, hS, hR, hn, hc, hl, hx, ho⟩
  · exact .inl ⟨rfl, List.length_eq_zero_iff.1 h⟩
  · have hr := ho.reads
    rw [volC_map] at hr
    have : xs = volvl l := lit_reads (by rw [hr.1]; simp) hr.2
    subst this
    exact .inr ⟨g, cap, rfl, hS, hR, hn, hc⟩
def MarkedVol (t : TypeId) (w : World) (S : Nat → Prop) (v : Value) (k : Int) (l : List VolD) (e : Ending) (w' : World) : Prop := e = .returned (.int .i64 (k + (l.length * 4 : Nat))) ∧ Owns w' S v (volsT t (mkL mVol sVol k l l.length)) ∧ Only S w w'
theorem osVol {S : Nat → Prop} {w w1 : World} {g i : Nat} {u1 u2 u3 u4 : Value} (h : Only S w w1) (hg : S g) : Only S w ((((w1.setCell ⟨g, i, none⟩ u1).setCell ⟨g, i + 1, none⟩ u2).setCell ⟨g, i + 2, none⟩ u3).setCell ⟨g, i + 3, none⟩ u4) :=
  (((h.setCell hg _).setCell hg _).setCell hg _).setCell hg _
set_option maxHeartbeats 1000000 in
theorem markVolS_any {t : TypeId} (v : Value) (S : Nat → Prop) (l : List VolD) (k : Int) (w : World) (hv : Owns w S v (volsT t l)) (hn : l.length ≤ 2097152) (h0 : 0 ≤ k) (h1 : k ≤ 1125899906842624) :
    Calls Try.prog 31 #[v, .int .i64 k] w (MarkedVol t w S v k l) := by
  rcases hv.rwVol with ⟨rfl, rfl⟩ | ⟨g, cap, rfl, hS, hR, hcap, hmax⟩
  · go_enter Try.func31, Try.ntmps31
    go_wp2
    go_loopw [1, 5] (fun q i wr => i = .int .i64 0 ∧ q = .int .i64 k ∧ w = wr) (fun _ _ _ => 0)
    case atStart => exact ⟨rfl, rfl, rfl⟩
    case round =>
      obtain ⟨rfl, rfl, rfl⟩ := hrel
      go_wp2
      go_ret
      exact ⟨by simp, .nil _ _ _, Only.refl _ _⟩
  · clear hv
    go_enter Try.func31, Try.ntmps31
    go_wp2
    go_loopw [1, 5] (fun q i wr => ∃ j : Nat, j ≤ l.length ∧ i = .int .i64 j ∧ q = .int .i64 (k + (j * 4 : Nat)) ∧ Hid (RwVol t wr g cap (mkL mVol sVol k l j)) ∧ Hid (Only S w wr)) (fun _ i _ => l.length - (intOf i).toNat)
    case atStart => exact ⟨0, Nat.zero_le _, rfl, by simp, Lib.hid (by rw [mkL_zero]; exact hR), Lib.hid (Only.refl _ _)⟩
    case round =>
      clear hR
      obtain ⟨j, hj, rfl, rfl, HR, HO⟩ := hrel
      by_cases hlt : j < l.length
      · have hlm : j < (mkL mVol sVol k l j).length := by rw [mkL_length]; exact hlt
        have HC : Hid (∀ W, RwVol t W g cap (mkL mVol sVol k l j) → ∀ i, i < 4 → ∃ v, W.cell? ⟨g, j * 4 + i, none⟩ = some v) := Lib.hid (fun W h => h.cs hlm)
        have hs : ∀ W, RwVol t W g cap (mkL mVol sVol k l j) → RwVol t ((((W.setCell ⟨g, j * 4, none⟩ (.string (mVol (k + (j * 4 : Nat)) l[j]).a)).setCell ⟨g, j * 4 + 1, none⟩ (.int .i64 (mVol (k + (j * 4 : Nat)) l[j]).b)).setCell ⟨g, j * 4 + 2, none⟩ (.int .i64 (mVol (k + (j * 4 : Nat)) l[j]).c)).setCell ⟨g, j * 4 + 3, none⟩ (.bool (mVol (k + (j * 4 : Nat)) l[j]).d)) g cap (mkL mVol sVol k l (j + 1)) := fun W h => by
          have h2 := h.set hlm (mVol (k + (j * 4 : Nat)) l[j])
          rw [show (mkL mVol sVol k l j).set j (mVol (k + (j * 4 : Nat)) l[j]) = mkL mVol sVol k l (j + 1) by rw [mkL_succ _ _ _ _ _ hlt, totVol l j hj]] at h2
          exact h2
        have HS := Lib.hid hs
        have i1 : (j : Int) < (l.length : Int) := by omega
        have i2 : (0 : Int) ≤ (j : Int) := by omega
        clear hlm hs
        have HQ : Hid (k + ((j + 1) * 4 : Nat) = k + (j * 4 : Nat) + 1 + 1 + 1 + 1) := Lib.hid (by omega)
        have q0 : 0 ≤ k + ((j * 4 : Nat) : Int) := by omega
        have q1 : k + ((j * 4 : Nat) : Int) ≤ 1125899917328384 := by omega
        have hMT := markText_any (k + ((j * 4 : Nat) : Int)) wr q0 (by omega)
        generalize k + ((j * 4 : Nat) : Int) = q at *
        have HT := Lib.hid hMT
        clear hMT
        have HU3 : Hid ((q + 1 + 1 + 1).tmod 3 = (q + 1 + 1 + 1) % 3) := Lib.hid (Int.tmod_eq_emod_of_nonneg (by omega))
        have HT3 : Hid ((mVol q l[j]).d = ((q + 1 + 1 + 1) % 3 == 0)) := Lib.hid (by unfold mVol; rw [HU3.out])
        go_wp2_with fail
        refine HT.out.mono ?_
        rintro e w1 ⟨rfl, b1⟩
        have hr1 : RwVol t w1 g cap (mkL mVol sVol k l j) := Rw.keep HR.out (b1.block _ (Rw.lt HR.out))
        have HO1 : Hid (Only S w w1) := Lib.hid (HO.out.trans (Only.of_below b1 S))
        obtain ⟨y0, d0⟩ := HC.out w1 hr1 0 (by omega)
        obtain ⟨y1, d1⟩ := HC.out w1 hr1 1 (by omega)
        obtain ⟨y2, d2⟩ := HC.out w1 hr1 2 (by omega)
        obtain ⟨y3, d3⟩ := HC.out w1 hr1 3 (by omega)
        rw [Nat.add_zero] at d0
        have f0 := Rw.frozen hr1 (j * 4)
        have f1 := Rw.frozen hr1 (j * 4 + 1)
        have f2 := Rw.frozen hr1 (j * 4 + 2)
        have f3 := Rw.frozen hr1 (j * 4 + 3)
        have HS1 := Lib.hid (HS.out w1 hr1)
        have HO2 := Lib.hid (osVol (i := j * 4) (u1 := .string (markT q)) (u2 := .int .i64 (q + 1)) (u3 := .int .i64 (q + 1 + 1)) (u4 := .bool ((q + 1 + 1 + 1) % 3 == 0)) HO1.out hS)
        clear hr1 HO1 HO HR b1 HS HC HT
        go_wp2
        go_roundw
        case rel =>
          exact ⟨j + 1, by omega, by go_num, by rw [HQ.out], Lib.hid (by have h := HS1.out; rw [HT3.out] at h; exact h), HO2⟩
        case measure => simp [intOf]; omega
      · go_wp2
        go_ret
        have e : j = l.length := by omega
        subst e
        refine ⟨rfl, ?_, HO.out⟩
        have h := HR.out.owns hS (by rw [mkL_length]; exact hcap) hmax
        rw [mkL_length] at h
        exact h
set_option maxHeartbeats 1000000 in
theorem heldVolS_any {t : TypeId} (v : Value) (l : List VolD) (k : Int) (w : World) (hv : Reads w w.heap.size v (volsT t (mkL mVol sVol k l l.length))) (hn : l.length ≤ 2097152) (h0 : 0 ≤ k) (h1 : k ≤ 1125899906842624) :
    Calls Try.prog 35 #[v, .int .i64 k] w fun e w' => e = .returned (.int .i64 (k + (l.length * 4 : Nat))) ∧ Below w.heap.size w w' := by
  obtain ⟨A, c, rfl, _, _⟩ := hv.shapeVol
  rw [mkL_length]
  have HV := Lib.hid hv
  clear hv
  go_enter Try.func35, Try.ntmps35
  go_wp2
  go_loopw [1, 5] (fun q i wr => ∃ j : Nat, j ≤ l.length ∧ i = .int .i64 j ∧ q = .int .i64 (k + (j * 4 : Nat)) ∧ Hid (Below w.heap.size w wr)) (fun _ i _ => l.length - (intOf i).toNat)
  case atStart => exact ⟨0, Nat.zero_le _, rfl, by simp, Lib.hid (Below.refl _ _)⟩
  case round =>
    obtain ⟨j, hj, rfl, rfl, HB⟩ := hrel
    by_cases hlt : j < l.length
    · have hlm : j < (mkL mVol sVol k l l.length).length := by rw [mkL_length]; exact hlt
      obtain ⟨b, off, rfl, hbb, hc⟩ := (HV.out.on HB.out).vols hlm
      have F := hc j hlm
      rw [mkL_get _ _ _ _ _ _ hlt hlt, totVol l j hj] at F
      have HQ : Hid (k + ((j + 1) * 4 : Nat) = k + (j * 4 : Nat) + 1 + 1 + 1 + 1) := Lib.hid (by omega)
      have q0 : 0 ≤ k + ((j * 4 : Nat) : Int) := by omega
      have q1 : k + ((j * 4 : Nat) : Int) ≤ 1125899917328384 := by omega
      have i1 : (j : Int) < (l.length : Int) := by omega
      have i2 : (0 : Int) ≤ (j : Int) := by omega
      clear hc hlm
      have hMT := fun W => markText_any (k + ((j * 4 : Nat) : Int)) W q0 (by omega)
      generalize k + ((j * 4 : Nat) : Int) = q at *
      have HT := Lib.hid hMT
      clear hMT
      have HF : Hid (VolF wr b (off + j * 4) ⟨markT q, q + 1, q + 1 + 1, ((q + 1 + 1 + 1).tmod 3 == 0)⟩) := Lib.hid F
      clear F
      have c0 := HF.out.1
      have n0 : ((markT q).toList == (markT q).toList) = true := by simp
      have n1 : (q + 1 != q + 1) = false := by simp
      have n2 : (q + 1 + 1 != q + 1 + 1) = false := by simp
      have n3 : (((q + 1 + 1 + 1).tmod 3 == 0) != ((q + 1 + 1 + 1).tmod 3 == 0)) = false := by simp
      go_wp2
      go_region_held3 (fun W => W.cell? ⟨b, off + j * 4, none⟩ = some (.string (markT q)))
        (first | with_reducible exact (HF.out.on hbb B8).1 | with_reducible exact (HF.out.on hbb (Below.drew1 _)).1 | exact HF.out.1 | fail)
        (first
          | (go_at_call 61; refine (HT.out _).mono ?_; rintro r w8 ⟨rfl, b8⟩; have B8 := bstep (Below.drew1 _) b8)
          | fail)
      all_goals
        have BC := Lib.hid (bstep HB.out B8)
        obtain ⟨_, c1, c2, c3⟩ := HF.out.on hbb B8
        clear B8 b8 c0
        go_wp2
        go_roundw
        case rel => exact ⟨j + 1, by omega, by go_num, by rw [HQ.out], BC⟩
        case measure => simp [intOf]; omega
    · go_wp2
      go_ret
      have e : j = l.length := by omega
      subst e
      exact ⟨rfl, HB.out⟩
end Go.Proofs.Ytmpgmjnagpiijaa
