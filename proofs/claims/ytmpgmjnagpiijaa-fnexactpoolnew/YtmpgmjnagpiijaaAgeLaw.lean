/- Contracts for lists of versions in the laws: laws.toAgeS copies one, laws.szAgeS counts, laws.eqAgeS finds two that read alike equal, laws.markAgeS writes marks, laws.heldAgeS finds them. Conditions: at most 2^20 versions. -/
import Derived.Test.YtmpgmjnagpiijaaAge
namespace Go.Proofs.Ytmpgmjnagpiijaa
open Go.RowKit
set_option maxRecDepth 100000
set_option linter.unusedSimpArgs false
set_option linter.unusedVariables false

theorem toAge_any (k : AgeD) (w : World) : Calls Try.prog 69 #[.agg #[.int .i64 k.a, .int .i64 k.b]] w fun e w' => e = .returned (.agg #[.int .i64 k.a, .int .i64 k.b]) ∧ Below w.heap.size w w' := by
  go_enter Try.func69, Try.ntmps69
  go_wp2
  refine bodyPost_ret (v := .agg #[.int .i64 k.a, .int .i64 k.b]) (by simp [results, Try.results69, go_sem, *]) rfl ⟨rfl, ?_⟩
  exact bal3 _ _ _ _
theorem RowV.age {w : World} {g n j : Nat} {e : TypeId} {l : List AgeD} (h : RowV w g (n * 2) e (gvl l)) (hj : l.length = j) (hk : j < n) (k : AgeD) :
    RowV ((w.setCell ⟨g, j * 2, none⟩ (.int .i64 k.a)).setCell ⟨g, j * 2 + 1, none⟩ (.int .i64 k.b)) g (n * 2) e (gvl (l ++ [k])) := by
  have hl := gvl_len l
  rw [hj] at hl
  have h1 := h.step (by omega) (.int .i64 k.a)
  have h2 := h1.step (by simp; omega) (.int .i64 k.b)
  simp only [List.length_append, List.length_singleton, hl, List.append_assoc] at h2
  rw [gvl_append, gvl_one]
  exact h2
theorem RowV.rowG {w : World} {g n : Nat} {l : List AgeD} (h : RowV w g (n * 2) 97 (gvl l)) (hl : l.length = n) (hn : n ≤ 2097152) : RowG w g (.slice (some ⟨g, 0, none⟩) n n) l := by
  obtain ⟨cur, hg, hs, hl2, ht⟩ := h
  subst hl
  refine ⟨gvl_len l, .inr ⟨g, l.length, cur, rfl, Nat.le_refl _, hg, Nat.le_refl _, by unfold maxLen; omega, hs, ?_⟩⟩
  rw [← gvl_len l]
  exact ht
theorem bs2 {w w1 : World} {g i : Nat} {u1 u2 : Value} {B : Nat} (h : Below B w w1) (hg : B ≤ g) : Below B w ((w1.setCell ⟨g, i, none⟩ u1).setCell ⟨g, i + 1, none⟩ u2) :=
  (h.setCell (p := ⟨g, i, none⟩) hg _).setCell (p := ⟨g, i + 1, none⟩) hg _
theorem toAgeS_any (v : Value) (l : List AgeD) (w : World) (hv : Reads w w.heap.size v (agesA l)) (hn : l.length ≤ 1048576) : Calls Try.prog 41 #[v] w (NewG w l) := by
  obtain ⟨A, c, rfl, _, _⟩ := hv.shapeG
  have hmk := run_makeAges l.length l.length (Nat.le_refl _) (by omega)
  have HT := Lib.hid toAge_any
  go_enter Try.func41, Try.ntmps41
  go_wp2
  go_loopw [4] (fun i wr => ∃ k : Nat, k ≤ l.length ∧ i = .int .i64 k ∧ RowV wr w.heap.size (l.length * 2) 97 (gvl (l.take k)) ∧ Below w.heap.size w wr) (fun i _ => l.length - (intOf i).toNat)
  case atStart => exact ⟨0, Nat.zero_le _, rfl, by have h := RowV.new w (madeCells #[.int .i64 0, .int .i64 0] (l.length * 2)) 97; rw [size_madeCells] at h; exact h, (Below.refl _ _).alloc (Nat.le_refl _) _⟩
  case round =>
    obtain ⟨k, hk, rfl, hrow, hb⟩ := hrel
    by_cases hlt : k < l.length
    · obtain ⟨b, off, rfl, hbb, hc⟩ := (hv.on hb).ages hlt
      obtain ⟨c0, c1⟩ := hc k hlt
      have HV := Lib.hid hv
      have hg := hrow.lt
      clear hc hv
      have i1 : (k : Int) < (l.length : Int) := by omega
      have i2 : (0 : Int) ≤ (k : Int) := by omega
      go_wp2_with fail
      refine (HT.out l[k] _).mono ?_
      rintro e w1 ⟨rfl, b1⟩
      have hrow1 := hrow.keep (b1.block _ hg)
      have hb1 := hb.trans (b1.mono hb.size)
      obtain ⟨y0, d0⟩ := hrow1.cell (k := k * 2) (by omega)
      obtain ⟨y1, d1⟩ := hrow1.cell (k := k * 2 + 1) (by omega)
      have f0 := hrow1.frozen (k * 2)
      have f1 := hrow1.frozen (k * 2 + 1)
      have HR := Lib.hid (hrow1.age (j := k) (by simp; omega) hlt l[k])
      have HB := Lib.hid (bs2 (i := k * 2) (u1 := .int .i64 (l[k]).a) (u2 := .int .i64 (l[k]).b) hb1 (Nat.le_refl w.heap.size))
      clear hrow hrow1 hb1 hb b1 c0 c1
      go_wp2
      go_roundw
      case rel => exact ⟨k + 1, by omega, by go_num, by rw [List.take_succ_eq_append_getElem hlt]; exact HR.out, HB.out⟩
      case measure => simp [intOf]; omega
    · go_wp2
      go_ret
      have e : k = l.length := by omega
      subst e
      rw [List.take_length] at hrow
      exact ⟨_, rfl, hrow.rowG rfl (by omega), hb⟩
theorem szAgeS_any (A : Option Addr) (n c : Nat) (m : Int) (w : World) (hn : n ≤ maxLen) (h1 : 0 ≤ m) (h2 : m ≤ 1048576) :
    Calls Try.prog 37 #[.slice A n c, .int .i64 m] w fun e w' => w = w' ∧ ((e = .returned (.int .i64 (-1)) ∧ m < n) ∨ (e = .returned (.int .i64 (m - n)) ∧ n ≤ m)) := by
  unfold maxLen at hn
  by_cases h : m - (n : Int) < 0
  · go_enter Try.func37, Try.ntmps37
    go_wp2
    go_ret
    exact ⟨rfl, .inl ⟨rfl, by omega⟩⟩
  · go_enter Try.func37, Try.ntmps37
    go_wp2
    go_ret
    exact ⟨rfl, .inr ⟨rfl, by omega⟩⟩
theorem szg_small (A : Option Addr) (n c : Nat) (w : World) (hn : n ≤ 1048576) (m : Int) (h1 : (n : Int) ≤ m) (h2 : m ≤ 1048576) : Calls Try.prog 37 #[.slice A n c, .int .i64 m] w fun e w' => e = .returned (.int .i64 (m - n)) ∧ w = w' := by
  refine (szAgeS_any A n c m w (by unfold maxLen; omega) (by omega) h2).mono ?_
  rintro r w1 ⟨rfl, h | h⟩
  · omega
  · exact ⟨h.1, rfl⟩
theorem szg_big (A : Option Addr) (n c : Nat) (w : World) (hn : n ≤ maxLen) (m : Int) (h1 : m < (n : Int)) (h0 : 0 ≤ m) (h2 : m ≤ 1048576) : Calls Try.prog 37 #[.slice A n c, .int .i64 m] w fun e w' => e = .returned (.int .i64 (-1)) ∧ w = w' := by
  refine (szAgeS_any A n c m w hn h0 h2).mono ?_
  rintro r w1 ⟨rfl, h | h⟩
  · exact ⟨h.1, rfl⟩
  · omega
theorem eqAge_same (k : AgeD) (w : World) : Calls Try.prog 56 #[.agg #[.int .i64 k.a, .int .i64 k.b], .agg #[.int .i64 k.a, .int .i64 k.b]] w (SaysBool w true) := by
  go_enter Try.func56, Try.ntmps56
  go_wp2
  go_ret
  exact ⟨rfl, bal2 _ _ _⟩
theorem Two.and {w : World} {b o : Nat} {k : AgeD} (h : Two w b o k) {P : Prop} (p : P) : w.cell? ⟨b, o, none⟩ = some (.int .i64 k.a) ∧ w.cell? ⟨b, o + 1, none⟩ = some (.int .i64 k.b) ∧ P := ⟨h.1, h.2, p⟩
set_option maxHeartbeats 1000000 in
theorem eqAgeS_same (v u : Value) (l : List AgeD) (w : World) (hv : Reads w w.heap.size v (agesD l)) (hu : Reads w w.heap.size u (agesD l)) (hn : l.length ≤ 2097152) :
    Calls Try.prog 25 #[v, u] w (SaysBool w true) := by
  obtain ⟨A, c, rfl, _, _⟩ := hv.shapeG
  obtain ⟨A', c', rfl, _, _⟩ := hu.shapeG
  have HT := Lib.hid eqAge_same
  have HV := Lib.hid hv
  have HU := Lib.hid hu
  clear hv hu
  have hne : (((l.length : Nat) : Int) != ((l.length : Nat) : Int)) = false := by simp
  go_enter Try.func25, Try.ntmps25
  go_wp2
  go_loopw [5] (fun i wr => ∃ k : Nat, k ≤ l.length ∧ i = .int .i64 k ∧ Below w.heap.size w wr) (fun i _ => l.length - (intOf i).toNat)
  case atStart => exact ⟨0, Nat.zero_le _, rfl, Below.refl _ _⟩
  case round =>
    obtain ⟨k, hk, rfl, hb⟩ := hrel
    by_cases hlt : k < l.length
    · obtain ⟨b, off, rfl, hbb, hc⟩ := (HV.out.on hb).ages hlt
      obtain ⟨b', off', rfl, hbb', hc'⟩ := (HU.out.on hb).ages hlt
      have F := Lib.hid (hc k hlt)
      have F' := Lib.hid (hc' k hlt)
      have i1 : (k : Int) < (l.length : Int) := by omega
      have i2 : (0 : Int) ≤ (k : Int) := by omega
      clear hc hc'
      obtain ⟨c0, c1⟩ := F.out
      obtain ⟨d0, d1⟩ := F'.out
      have HB := Lib.hid hb
      clear hb
      go_wp2
      go_region_held3 (fun W => W.cell? ⟨b, off + k * 2, none⟩ = some (.int .i64 (l[k]).a) ∧ W.cell? ⟨b, off + k * 2 + 1, none⟩ = some (.int .i64 (l[k]).b) ∧ W.cell? ⟨b', off' + k * 2, none⟩ = some (.int .i64 (l[k]).a) ∧ W.cell? ⟨b', off' + k * 2 + 1, none⟩ = some (.int .i64 (l[k]).b))
        (first | with_reducible exact (F.out.on hbb B8).and (F'.out.on hbb' B8) | with_reducible exact (F.out.on hbb (Below.drew1 _)).and (F'.out.on hbb' (Below.drew1 _)) | exact F.out.and F'.out | fail)
        (first
          | (go_at_call 56; refine (HT.out l[k] _).mono ?_; rintro r w8 ⟨rfl, b8⟩; have B8 := bstep (Below.drew1 _) b8)
          | fail)
      all_goals
        have BC := Lib.hid (bstep HB.out B8)
        clear B8 b8 c0 c1 d0 d1
        go_wp2
        go_roundw
        case rel => exact ⟨k + 1, by omega, by go_num, BC.out⟩
        case measure => simp [intOf]; omega
    · go_wp2
      go_ret
      exact ⟨rfl, hb⟩
def mG (k : Int) (_ : AgeD) : AgeD := ⟨k, k + 1⟩
def sG (_ : AgeD) : Nat := 2
theorem totG (l : List AgeD) (i : Nat) (h : i ≤ l.length) : totL sG l i = i * 2 := by
  induction i with
  | zero => cases l <;> rfl
  | succ i ih => rw [totL_succ sG l i (by omega), ih (by omega)]; simp [sG, Nat.add_mul]
theorem gvl_set (l : List AgeD) (i : Nat) (k : AgeD) (h : i < l.length) : gvl (l.set i k) = ((gvl l).set (i * 2) (.int .i64 k.a)).set (i * 2 + 1) (.int .i64 k.b) := by
  induction l generalizing i with
  | nil => simp at h
  | cons x l ih =>
    cases i with
    | zero => simp [gvl_cons, gX]
    | succ i =>
      have h := ih i (by simpa using h)
      rw [List.set_cons_succ, gvl_cons, h, gvl_cons, show (i + 1) * 2 = i * 2 + 1 + 1 by omega]
      simp [gX]
/-- Block g of w holds the versions l in a row of room for cap. -/
def RwG (w : World) (g cap : Nat) (l : List AgeD) : Prop := Rw w g 97 2 l.length cap (gvl l)
theorem RwG.two {w : World} {g cap : Nat} {l : List AgeD} (h : RwG w g cap l) {i : Nat} (hi : i < l.length) : ∀ j, j < 2 → ∃ v, w.cell? ⟨g, i * 2 + j, none⟩ = some v := by
  intro j hj
  have hl := gvl_len l
  exact ⟨_, Rw.cell h (i := i * 2 + j) (by omega)⟩
theorem RwG.set {w : World} {g cap : Nat} {l : List AgeD} (h : RwG w g cap l) {i : Nat} (hi : i < l.length) (k : AgeD) : RwG ((w.setCell ⟨g, i * 2, none⟩ (.int .i64 k.a)).setCell ⟨g, i * 2 + 1, none⟩ (.int .i64 k.b)) g cap (l.set i k) := by
  have h5 := (Rw.set h (i * 2) (.int .i64 k.a)).set (i * 2 + 1) (.int .i64 k.b)
  unfold RwG
  rw [List.length_set, gvl_set l i k hi]
  exact h5
theorem RwG.owns {w : World} {S : Nat → Prop} {g cap : Nat} {l : List AgeD} (h : RwG w g cap l) (hS : S g) (hn : l.length ≤ cap) (hc : cap ≤ maxLen) : Owns w S (.slice (some ⟨g, 0, none⟩) l.length cap) (agesD l) :=
  Rw.owns h hS (by rw [gC_map]; exact lits_own _ _ _) hn hc (ages_len l)
theorem Owns.rwG {w : World} {S : Nat → Prop} {v : Value} {l : List AgeD} (h : Owns w S v (agesD l)) : (v = .slice none 0 0 ∧ l = []) ∨ ∃ g cap, v = .slice (some ⟨g, 0, none⟩) l.length cap ∧ S g ∧ RwG w g cap l ∧ l.length ≤ cap ∧ cap ≤ maxLen := by
  rcases h.rw' with ⟨rfl, h, _⟩ | ⟨g, cap, xs, rfl, hS, hR, hn, hc, hl, hx, ho⟩
  · exact .inl ⟨rfl, List.length_eq_zero_iff.1 h⟩
  · have hr := ho.reads
    rw [gC_map] at hr
    have : xs = gvl l := lit_reads (by rw [hr.1]; simp) hr.2
    subst this
    exact .inr ⟨g, cap, rfl, hS, hR, hn, hc⟩
def MarkedG (w : World) (S : Nat → Prop) (v : Value) (k : Int) (l : List AgeD) (e : Ending) (w' : World) : Prop := e = .returned (.int .i64 (k + (l.length * 2 : Nat))) ∧ Owns w' S v (agesD (mkL mG sG k l l.length)) ∧ Only S w w'
theorem os2 {S : Nat → Prop} {w w1 : World} {g i : Nat} {u1 u2 : Value} (h : Only S w w1) (hg : S g) : Only S w ((w1.setCell ⟨g, i, none⟩ u1).setCell ⟨g, i + 1, none⟩ u2) :=
  (h.setCell hg _).setCell hg _
set_option maxHeartbeats 1000000 in
theorem markAgeS_any (v : Value) (S : Nat → Prop) (l : List AgeD) (k : Int) (w : World) (hv : Owns w S v (agesD l)) (hn : l.length ≤ 2097152) (h0 : 0 ≤ k) (h1 : k ≤ 1125899906842624) :
    Calls Try.prog 29 #[v, .int .i64 k] w (MarkedG w S v k l) := by
  rcases hv.rwG with ⟨rfl, rfl⟩ | ⟨g, cap, rfl, hS, hR, hcap, hmax⟩
  · go_enter Try.func29, Try.ntmps29
    go_wp2
    go_loopw [1, 5] (fun q i wr => i = .int .i64 0 ∧ q = .int .i64 k ∧ w = wr) (fun _ _ _ => 0)
    case atStart => exact ⟨rfl, rfl, rfl⟩
    case round =>
      obtain ⟨rfl, rfl, rfl⟩ := hrel
      go_wp2
      go_ret
      exact ⟨by simp, .nil _ _ _, Only.refl _ _⟩
  · clear hv
    go_enter Try.func29, Try.ntmps29
    go_wp2
    go_loopw [1, 5] (fun q i wr => ∃ j : Nat, j ≤ l.length ∧ i = .int .i64 j ∧ q = .int .i64 (k + (j * 2 : Nat)) ∧ Hid (RwG wr g cap (mkL mG sG k l j)) ∧ Hid (Only S w wr)) (fun _ i _ => l.length - (intOf i).toNat)
    case atStart => exact ⟨0, Nat.zero_le _, rfl, by simp, Lib.hid (by rw [mkL_zero]; exact hR), Lib.hid (Only.refl _ _)⟩
    case round =>
      clear hR
      obtain ⟨j, hj, rfl, rfl, HR, HO⟩ := hrel
      by_cases hlt : j < l.length
      · have hlm : j < (mkL mG sG k l j).length := by rw [mkL_length]; exact hlt
        obtain ⟨y0, d0⟩ := HR.out.two hlm 0 (by omega)
        obtain ⟨y1, d1⟩ := HR.out.two hlm 1 (by omega)
        rw [Nat.add_zero] at d0
        have f0 := Rw.frozen HR.out (j * 2)
        have f1 := Rw.frozen HR.out (j * 2 + 1)
        have hs := HR.out.set hlm (mG (k + (j * 2 : Nat)) l[j])
        rw [show (mkL mG sG k l j).set j (mG (k + (j * 2 : Nat)) l[j]) = mkL mG sG k l (j + 1) by rw [mkL_succ _ _ _ _ _ hlt, totG l j hj]] at hs
        have HS := Lib.hid hs
        have HO2 := Lib.hid (os2 (i := j * 2) (u1 := .int .i64 (k + (j * 2 : Nat))) (u2 := .int .i64 (k + (j * 2 : Nat) + 1)) HO.out hS)
        have i1 : (j : Int) < (l.length : Int) := by omega
        have i2 : (0 : Int) ≤ (j : Int) := by omega
        clear HR HO hlm hs
        have HQ : Hid (k + ((j + 1) * 2 : Nat) = k + (j * 2 : Nat) + 1 + 1) := Lib.hid (by omega)
        have q0 : 0 ≤ k + ((j * 2 : Nat) : Int) := by omega
        have q1 : k + ((j * 2 : Nat) : Int) ≤ 1125899917328384 := by omega
        generalize k + ((j * 2 : Nat) : Int) = q at *
        go_wp2
        go_roundw
        case rel =>
          exact ⟨j + 1, by omega, by go_num, by rw [HQ.out], HS, HO2⟩
        case measure => simp [intOf]; omega
      · go_wp2
        go_ret
        have e : j = l.length := by omega
        subst e
        refine ⟨rfl, ?_, HO.out⟩
        have h := HR.out.owns hS (by rw [mkL_length]; exact hcap) hmax
        rw [mkL_length] at h
        exact h
set_option maxHeartbeats 1000000 in
theorem heldAgeS_any (v : Value) (l : List AgeD) (k : Int) (w : World) (hv : Reads w w.heap.size v (agesD (mkL mG sG k l l.length))) (hn : l.length ≤ 2097152) (h0 : 0 ≤ k) (h1 : k ≤ 1125899906842624) :
    Calls Try.prog 33 #[v, .int .i64 k] w fun e w' => e = .returned (.int .i64 (k + (l.length * 2 : Nat))) ∧ w = w' := by
  obtain ⟨A, c, rfl, _, _⟩ := hv.shapeG
  rw [mkL_length]
  have HV := Lib.hid hv
  clear hv
  go_enter Try.func33, Try.ntmps33
  go_wp2
  go_loop [1, 5] (fun q i => ∃ j : Nat, j ≤ l.length ∧ i = .int .i64 j ∧ q = .int .i64 (k + (j * 2 : Nat))) (fun _ i => l.length - (intOf i).toNat)
  case atStart => exact ⟨0, Nat.zero_le _, rfl, by simp⟩
  case round =>
    obtain ⟨j, hj, rfl, rfl⟩ := hrel
    by_cases hlt : j < l.length
    · have hlm : j < (mkL mG sG k l l.length).length := by rw [mkL_length]; exact hlt
      obtain ⟨b, off, rfl, hbb, hc⟩ := HV.out.ages hlm
      have F := hc j hlm
      rw [mkL_get _ _ _ _ _ _ hlt hlt, totG l j hj] at F
      have HQ : Hid (k + ((j + 1) * 2 : Nat) = k + (j * 2 : Nat) + 1 + 1) := Lib.hid (by omega)
      have q0 : 0 ≤ k + ((j * 2 : Nat) : Int) := by omega
      have q1 : k + ((j * 2 : Nat) : Int) ≤ 1125899917328384 := by omega
      have i1 : (j : Int) < (l.length : Int) := by omega
      have i2 : (0 : Int) ≤ (j : Int) := by omega
      clear hc hlm
      generalize k + ((j * 2 : Nat) : Int) = q at *
      obtain ⟨c0, c1⟩ := F
      unfold mG at c0 c1
      have n0 : (q != q) = false := by simp
      have n1 : (q + 1 != q + 1) = false := by simp
      go_wp2
      go_round
      case rel => exact ⟨j + 1, by omega, by go_num, by rw [HQ.out]⟩
      case measure => simp [intOf]; omega
    · go_wp2
      go_ret
      have e : j = l.length := by omega
      subst e
      exact ⟨rfl, rfl⟩
end Go.Proofs.Ytmpgmjnagpiijaa
