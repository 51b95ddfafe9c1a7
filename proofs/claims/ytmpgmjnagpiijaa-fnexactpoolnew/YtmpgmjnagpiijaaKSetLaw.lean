/- Contracts for lists of keys in the laws: laws.toKeyS copies one, laws.szKeyS counts, laws.eqKeyS finds two that read alike equal, laws.markKeyS writes marks, laws.heldKeyS finds them; a list of keys that comes in as an argument is opened. Conditions: at most 2^20 keys. -/
import Derived.Test.YtmpgmjnagpiijaaKSet
import Derived.Deep.RegionHeld3
import Derived.Deep.DeepCutAuto
namespace Go.Proofs.Ytmpgmjnagpiijaa
open Go.RowKit Go.ChangeShapes Go.WideShapes Go.Deep
set_option maxRecDepth 100000
set_option linter.unusedSimpArgs false
set_option linter.unusedVariables false

theorem keys_opens : Opens Try.prog 138 (fun ds => ∃ l, ds = [keysA l]) := by
  have hk : Opens Try.prog 144 (fun ds => ∃ k : KeyD, ds = kC k) := key_opens.weaken (fun ds ⟨a, b, c, d, e, h⟩ => ⟨⟨a, b, c, d, e⟩, h⟩)
  exact (Opens.slice (z := 5) kC kC_len (by omega) Try.underlying138 (by kernel_rfl) hk 144).weaken (fun ds ⟨l, hl⟩ => ⟨l, hl⟩)
def KeysIs (w : World) (v : Value) (l : List KeyD) : Prop := Reads w w.heap.size v (keysA l)
theorem open_keysArg {H : Type} {enc : TypeId × Value → H} {w : World} {r : Reach} {b0 base : Nat} {spare : Nat → Bool} {held : Bool} {v : Value} {x : DataW H} {p : List MemPlace}
    (hv : Value.okWide Try.prog w r b0 138 v) (h : DataW.Trod enc Try.prog w base spare held 138 v x p) : ∃ l, Reads w w.heap.size v (keysA l) := by
  obtain ⟨A, n, c, rfl⟩ := okWide_slice Try.underlying138 hv
  obtain ⟨fuel, hf⟩ := h
  obtain ⟨ds, ⟨l, rfl⟩, hr⟩ := keys_opens _ _ _ _ _ _ _ _ _ hf
  have r0 := hr.2 0 (by simp [Value.cells]) (by simp)
  simp [Value.cells] at r0
  exact ⟨l, r0⟩

theorem RowV.key {w : World} {g n j : Nat} {e : TypeId} {l : List KeyD} (h : RowV w g (n * 5) e (kvl l)) (hj : l.length = j) (hk : j < n) (k : KeyD) :
    RowV (((((w.setCell ⟨g, j * 5, none⟩ (.int .i64 k.a)).setCell ⟨g, j * 5 + 1, none⟩ (.int .i64 k.b)).setCell ⟨g, j * 5 + 2, none⟩ (.int .i64 k.c)).setCell ⟨g, j * 5 + 3, none⟩ (.int .i64 k.d)).setCell ⟨g, j * 5 + 4, none⟩ (.int .i64 k.e)) g (n * 5) e (kvl (l ++ [k])) := by
  have hl := kvl_len l
  rw [hj] at hl
  have h1 := h.step (by omega) (.int .i64 k.a)
  have h2 := h1.step (by simp; omega) (.int .i64 k.b)
  have h3 := h2.step (by simp; omega) (.int .i64 k.c)
  have h4 := h3.step (by simp; omega) (.int .i64 k.d)
  have h5 := h4.step (by simp; omega) (.int .i64 k.e)
  simp only [List.length_append, List.length_singleton, hl, List.append_assoc] at h5
  rw [kvl_append, kvl_one]
  exact h5
theorem RowV.rowK {w : World} {g n : Nat} {l : List KeyD} (h : RowV w g (n * 5) 75 (kvl l)) (hl : l.length = n) (hn : n ≤ 2097152) : RowK w g (.slice (some ⟨g, 0, none⟩) n n) l := by
  obtain ⟨cur, hg, hs, hl2, ht⟩ := h
  subst hl
  refine ⟨kvl_len l, .inr ⟨g, l.length, cur, rfl, Nat.le_refl _, hg, Nat.le_refl _, by unfold maxLen; omega, hs, ?_⟩⟩
  rw [← kvl_len l]
  exact ht
theorem b5 {w w1 : World} {g i : Nat} {u1 u2 u3 u4 u5 : Value} {B : Nat} (h : Below B w w1) (hg : B ≤ g) : Below B w (((((w1.setCell ⟨g, i, none⟩ u1).setCell ⟨g, i + 1, none⟩ u2).setCell ⟨g, i + 2, none⟩ u3).setCell ⟨g, i + 3, none⟩ u4).setCell ⟨g, i + 4, none⟩ u5) :=
  ((((h.setCell (p := ⟨g, i, none⟩) hg _).setCell (p := ⟨g, i + 1, none⟩) hg _).setCell (p := ⟨g, i + 2, none⟩) hg _).setCell (p := ⟨g, i + 3, none⟩) hg _).setCell (p := ⟨g, i + 4, none⟩) hg _
theorem toKeyS_any (v : Value) (l : List KeyD) (w : World) (hv : Reads w w.heap.size v (keysA l)) (hn : l.length ≤ 1048576) : Calls Try.prog 103 #[v] w (NewK w l) := by
  obtain ⟨A, c, rfl, _, _⟩ := hv.shapeK
  have hmk := run_makeKeys l.length l.length (Nat.le_refl _) (by omega)
  have HT := Lib.hid toKey_any
  unfold SaysK keyV at HT
  go_enter Try.func103, Try.ntmps103
  go_wp2
  go_loopw [4] (fun i wr => ∃ k : Nat, k ≤ l.length ∧ i = .int .i64 k ∧ RowV wr w.heap.size (l.length * 5) 75 (kvl (l.take k)) ∧ Below w.heap.size w wr) (fun i _ => l.length - (intOf i).toNat)
  case atStart => exact ⟨0, Nat.zero_le _, rfl, by have h := RowV.new w (madeCells #[.int .i64 0, .int .i64 0, .int .i64 0, .int .i64 0, .int .i64 0] (l.length * 5)) 75; rw [size_madeCells] at h; exact h, (Below.refl _ _).alloc (Nat.le_refl _) _⟩
  case round =>
    obtain ⟨k, hk, rfl, hrow, hb⟩ := hrel
    by_cases hlt : k < l.length
    · obtain ⟨b, off, rfl, hbb, hc⟩ := (hv.on hb).keys hlt
      obtain ⟨c0, c1, c2, c3, c4⟩ := hc k hlt
      have HV := Lib.hid hv
      have hg := hrow.lt
      clear hc hv
      have i1 : (k : Int) < (l.length : Int) := by omega
      have i2 : (0 : Int) ≤ (k : Int) := by omega
      go_wp2_with fail
      refine (HT.out _ _ _ _ _ _).mono ?_
      rintro e w1 ⟨rfl, b1⟩
      have hrow1 := hrow.keep (b1.block _ hg)
      have hb1 := hb.trans (b1.mono hb.size)
      obtain ⟨y0, d0⟩ := hrow1.cell (k := k * 5) (by omega)
      obtain ⟨y1, d1⟩ := hrow1.cell (k := k * 5 + 1) (by omega)
      obtain ⟨y2, d2⟩ := hrow1.cell (k := k * 5 + 2) (by omega)
      obtain ⟨y3, d3⟩ := hrow1.cell (k := k * 5 + 3) (by omega)
      obtain ⟨y4, d4⟩ := hrow1.cell (k := k * 5 + 4) (by omega)
      have f0 := hrow1.frozen (k * 5)
      have f1 := hrow1.frozen (k * 5 + 1)
      have f2 := hrow1.frozen (k * 5 + 2)
      have f3 := hrow1.frozen (k * 5 + 3)
      have f4 := hrow1.frozen (k * 5 + 4)
      have HR := Lib.hid (hrow1.key (j := k) (by simp; omega) hlt l[k])
      have HB := Lib.hid (b5 (i := k * 5) (u1 := .int .i64 (l[k]).a) (u2 := .int .i64 (l[k]).b) (u3 := .int .i64 (l[k]).c) (u4 := .int .i64 (l[k]).d) (u5 := .int .i64 (l[k]).e) hb1 (Nat.le_refl w.heap.size))
      clear hrow hrow1 hb1 hb b1 c0 c1 c2 c3 c4
      go_wp2
      go_roundw
      case rel => exact ⟨k + 1, by omega, by go_num, by rw [List.take_succ_eq_append_getElem hlt]; exact HR.out, HB.out⟩
      case measure => simp [intOf]; omega
    · go_wp2
      go_ret
      have e : k = l.length := by omega
      subst e
      rw [List.take_length] at hrow
      exact ⟨_, rfl, hrow.rowK rfl (by omega), hb⟩
theorem szKeyS_any (A : Option Addr) (n c : Nat) (m : Int) (w : World) (hn : n ≤ maxLen) (h1 : 0 ≤ m) (h2 : m ≤ 1048576) :
    Calls Try.prog 102 #[.slice A n c, .int .i64 m] w fun e w' => w = w' ∧ ((e = .returned (.int .i64 (-1)) ∧ m < n) ∨ (e = .returned (.int .i64 (m - n)) ∧ n ≤ m)) := by
  unfold maxLen at hn
  by_cases h : m - (n : Int) < 0
  · go_enter Try.func102, Try.ntmps102
    go_wp2
    go_ret
    exact ⟨rfl, .inl ⟨rfl, by omega⟩⟩
  · go_enter Try.func102, Try.ntmps102
    go_wp2
    go_ret
    exact ⟨rfl, .inr ⟨rfl, by omega⟩⟩
theorem eqKey_sameK (a b c d e : Int) (w : World) : Calls Try.prog 108 #[keyV a b c d e, keyV a b c d e] w (SaysBool w true) := by
  unfold keyV
  go_enter Try.func108, Try.ntmps108
  go_wp2
  go_ret
  exact ⟨rfl, bal2 _ _ _⟩
theorem Five.on {w w' : World} {b o : Nat} {k : KeyD} (h : Five w b o k) (hlt : b < w.heap.size) (hb : Below w.heap.size w w') : Five w' b o k := h.keep (hb.block b hlt)
theorem Five.and {w : World} {b o : Nat} {k : KeyD} (h : Five w b o k) {P : Prop} (p : P) : w.cell? ⟨b, o, none⟩ = some (.int .i64 (k).a) ∧ w.cell? ⟨b, o + 1, none⟩ = some (.int .i64 (k).b) ∧ w.cell? ⟨b, o + 2, none⟩ = some (.int .i64 (k).c) ∧ w.cell? ⟨b, o + 3, none⟩ = some (.int .i64 (k).d) ∧ w.cell? ⟨b, o + 4, none⟩ = some (.int .i64 (k).e) ∧ P := ⟨h.1, h.2.1, h.2.2.1, h.2.2.2.1, h.2.2.2.2, p⟩
set_option maxHeartbeats 1000000 in
theorem eqKeyS_same (v u : Value) (l : List KeyD) (w : World) (hv : Reads w w.heap.size v (keysD l)) (hu : Reads w w.heap.size u (keysD l)) (hn : l.length ≤ 2097152) :
    Calls Try.prog 101 #[v, u] w (SaysBool w true) := by
  obtain ⟨A, c, rfl, _, _⟩ := hv.shapeK
  obtain ⟨A', c', rfl, _, _⟩ := hu.shapeK
  have HT := Lib.hid eqKey_sameK
  unfold keyV at HT
  have HV := Lib.hid hv
  have HU := Lib.hid hu
  clear hv hu
  have hne : (((l.length : Nat) : Int) != ((l.length : Nat) : Int)) = false := by simp
  go_enter Try.func101, Try.ntmps101
  go_wp2
  go_loopw [5] (fun i wr => ∃ k : Nat, k ≤ l.length ∧ i = .int .i64 k ∧ Below w.heap.size w wr) (fun i _ => l.length - (intOf i).toNat)
  case atStart => exact ⟨0, Nat.zero_le _, rfl, Below.refl _ _⟩
  case round =>
    obtain ⟨k, hk, rfl, hb⟩ := hrel
    by_cases hlt : k < l.length
    · obtain ⟨b, off, rfl, hbb, hc⟩ := (HV.out.on hb).keys hlt
      obtain ⟨b', off', rfl, hbb', hc'⟩ := (HU.out.on hb).keys hlt
      have F := Lib.hid (hc k hlt)
      have F' := Lib.hid (hc' k hlt)
      have i1 : (k : Int) < (l.length : Int) := by omega
      have i2 : (0 : Int) ≤ (k : Int) := by omega
      clear hc hc'
      obtain ⟨c0, c1, c2, c3, c4⟩ := F.out
      obtain ⟨d0, d1, d2, d3, d4⟩ := F'.out
      have HB := Lib.hid hb
      clear hb
      go_wp2
      go_region_held3 (fun W => W.cell? ⟨b, off + k * 5, none⟩ = some (.int .i64 (l[k]).a) ∧ W.cell? ⟨b, off + k * 5 + 1, none⟩ = some (.int .i64 (l[k]).b) ∧ W.cell? ⟨b, off + k * 5 + 2, none⟩ = some (.int .i64 (l[k]).c) ∧ W.cell? ⟨b, off + k * 5 + 3, none⟩ = some (.int .i64 (l[k]).d) ∧ W.cell? ⟨b, off + k * 5 + 4, none⟩ = some (.int .i64 (l[k]).e) ∧ W.cell? ⟨b', off' + k * 5, none⟩ = some (.int .i64 (l[k]).a) ∧ W.cell? ⟨b', off' + k * 5 + 1, none⟩ = some (.int .i64 (l[k]).b) ∧ W.cell? ⟨b', off' + k * 5 + 2, none⟩ = some (.int .i64 (l[k]).c) ∧ W.cell? ⟨b', off' + k * 5 + 3, none⟩ = some (.int .i64 (l[k]).d) ∧ W.cell? ⟨b', off' + k * 5 + 4, none⟩ = some (.int .i64 (l[k]).e))
        (first | with_reducible exact (F.out.on hbb B8).and (F'.out.on hbb' B8) | with_reducible exact (F.out.on hbb (Below.drew1 _)).and (F'.out.on hbb' (Below.drew1 _)) | exact F.out.and F'.out | fail)
        (first
          | (go_at_call 108; refine (HT.out _ _ _ _ _ _).mono ?_; rintro r w8 ⟨rfl, b8⟩; have B8 := bstep (Below.drew1 _) b8)
          | fail)
      all_goals
        have BC := Lib.hid (bstep HB.out B8)
        clear B8 b8 c0 c1 c2 c3 c4 d0 d1 d2 d3 d4
        go_wp2
        go_roundw
        case rel => exact ⟨k + 1, by omega, by go_num, BC.out⟩
        case measure => simp [intOf]; omega
    · go_wp2
      go_ret
      exact ⟨rfl, hb⟩
end Go.Proofs.Ytmpgmjnagpiijaa
