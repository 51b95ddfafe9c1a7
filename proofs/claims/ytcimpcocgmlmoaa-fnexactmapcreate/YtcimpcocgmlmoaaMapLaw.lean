/- Contracts for lists of Maps in the laws: laws.toMapS copies one, laws.eqMapS finds two that read alike equal, laws.markMapS writes marks, laws.heldMapS finds them. Conditions: at most 1100000 Maps, letters and blocks. -/
import Derived.Test.YtcimpcocgmlmoaaMap
namespace Go.Proofs.Ytcimpcocgmlmoaa
open Go.RowKit
set_option maxRecDepth 100000
set_option linter.unusedSimpArgs false
set_option linter.unusedVariables false

def SmallM (l : List MapD) : Prop := l.length ≤ 1100000 ∧ sumM l ≤ 3000000 ∧ ∀ k ∈ l, k.l.length ≤ 1100000
theorem SmallM.at {l : List MapD} (h : SmallM l) {k : Nat} (hk : k < l.length) : (l[k]).a.size ≤ 3000000 ∧ (l[k]).l.length ≤ 1100000 := by
  have h1 := sumM_mem (List.getElem_mem hk)
  have h2 := h.2.1
  exact ⟨by omega, h.2.2 _ (List.getElem_mem hk)⟩
theorem box3M {w : World} {p : Nat} {a b c : Value} {t : TypeId} (h : w.heap[p]? = some (.cells #[a, b, c] t (0, 0))) : w.cell? ⟨p, 0, none⟩ = some a ∧ w.cell? ⟨p, 1, none⟩ = some b ∧ w.cell? ⟨p, 2, none⟩ = some c ∧ ∀ o, w.frozen? ⟨p, o, none⟩ = false :=
  ⟨by rw [cell_of_row w p 0 _ _ _ h]; rfl, by rw [cell_of_row w p 1 _ _ _ h]; rfl, by rw [cell_of_row w p 2 _ _ _ h]; rfl, fun o => frozen_of_row w p o _ _ h⟩
theorem toMap_any (k : MapD) (v : Value) (w : World) (hv : Reads w w.heap.size v (intsD k.l)) (hn : k.l.length ≤ 1048576) :
    Calls Try.prog 43 #[.agg #[.string k.a, .bool k.f, v]] w fun e w' => ∃ u, e = .returned (.agg #[.string k.a, .bool k.f, u]) ∧ Owns w' (fun b => w.heap.size ≤ b) u (intsD k.l) ∧ Below w.heap.size w w' := by
  have HS := Lib.hid (fun W b => toIntS_any v k.l W (hv.on b) hn)
  obtain ⟨A, c, rfl, hc1, hc2⟩ := hv.lenN
  have HB := Lib.hid (bal3 w (.cells #[.string k.a, .bool k.f, .slice A k.l.length c] 52) (.cells #[.string ⟨#[]⟩, .bool false, .slice none 0 0] 53) (.cells #[.string k.a, .bool k.f, .slice none 0 0] 53))
  clear hv
  go_enter Try.func43, Try.ntmps43
  go_wp2_with fail
  refine (HS.out _ HB.out).mono ?_
  rintro e w1 ⟨vv, rfl, o1, b1⟩
  obtain ⟨Av, cv, rfl, _, _⟩ := o1.reads.lenN
  have hb1 := bstep HB.out b1
  obtain ⟨k1, k2⟩ := bcell b1
  have hz := b1.size
  simp at hz
  have o2 : Owns w1 (fun b => w.heap.size + 3 ≤ b) (.slice Av k.l.length cv) (intsD k.l) := by
    simp only [World.size_alloc] at o1
    exact o1
  go_wp2
  have HO : ∀ u1 u2 u3 u4, Only (Mid w.heap.size (w.heap.size + 3)) w1 ((((w1.setCell ⟨w.heap.size + 1 + 1, 2, none⟩ u1).setCell ⟨w.heap.size + 1, 0, none⟩ u2).setCell ⟨w.heap.size + 1, 1, none⟩ u3).setCell ⟨w.heap.size + 1, 2, none⟩ u4) := fun u1 u2 u3 u4 => ((((Only.refl _ _).setCell (.mk (by omega) (by omega)) _).setCell (.mk (by omega) (by omega)) _).setCell (.mk (by omega) (by omega)) _).setCell (.mk (by omega) (by omega)) _
  exact bodyPost_ret (v := .agg #[.string k.a, .bool k.f, .slice Av k.l.length cv]) (by simp [results, Try.results43, go_sem, k1]) rfl ⟨_, rfl, o2.past (HO _ _ _ _) (by omega), bpast hb1 (HO _ _ _ _)⟩
theorem RowV.map {w : World} {g n j : Nat} {e : TypeId} {l : List MapD} {us : List Value} (h : RowV w g (n * 3) e (mvl l us)) (hu : us.length = l.length) (hj : l.length = j) (hk : j < n) (k : MapD) (u : Value) :
    RowV (((w.setCell ⟨g, j * 3, none⟩ (.string k.a)).setCell ⟨g, j * 3 + 1, none⟩ (.bool k.f)).setCell ⟨g, j * 3 + 2, none⟩ u) g (n * 3) e (mvl (l ++ [k]) (us ++ [u])) := by
  have hl := mvl_len hu
  rw [hj] at hl
  have h1 := h.step (by omega) (.string k.a)
  have h2 := h1.step (by simp; omega) (.bool k.f)
  have h3 := h2.step (by simp; omega) u
  simp only [List.length_append, List.length_singleton, hl, List.append_assoc] at h3
  rw [mvl_append hu, mvl_one]
  exact h3
theorem far3 (w : World) (g i j k : Nat) (u1 u2 u3 : Value) : ∀ b, b ≠ g → (((w.setCell ⟨g, i, none⟩ u1).setCell ⟨g, j, none⟩ u2).setCell ⟨g, k, none⟩ u3).heap[b]? = w.heap[b]? := fun b hb =>
  (Below.heap_setCell _ _ _ _ (by simpa using hb)).trans ((Below.heap_setCell _ _ _ _ (by simpa using hb)).trans (Below.heap_setCell _ _ _ _ (by simpa using hb)))
theorem bsM {w w1 : World} {g i j k : Nat} {u1 u2 u3 : Value} {B : Nat} (h : Below B w w1) (hg : B ≤ g) : Below B w (((w1.setCell ⟨g, i, none⟩ u1).setCell ⟨g, j, none⟩ u2).setCell ⟨g, k, none⟩ u3) :=
  ((h.setCell (p := ⟨g, i, none⟩) hg _).setCell (p := ⟨g, j, none⟩) hg _).setCell (p := ⟨g, k, none⟩) hg _
theorem OwnsL.pushM {wr w1 w2 : World} {g : Nat} {us : List Value} {cs : List Dat} {u : Value} {c : Dat} (h : OwnsL wr (fun b => g < b) us cs) (hb : Below wr.heap.size wr w1) (hv : Owns w1 (fun b => wr.heap.size ≤ b) u c) (hg : g < wr.heap.size) (hk : ∀ b, b ≠ g → w2.heap[b]? = w1.heap[b]?) :
    OwnsL w2 (fun b => g < b) (us ++ [u]) (cs ++ [c]) := by
  have h1 : OwnsL w1 (fun b => g < b ∧ b < wr.heap.size) us cs := h.lt.on hb
  have h2 := h1.snoc hv (U := fun b => g < b) (fun b hb => hb.1) (fun b hb => by omega) (fun b hb hb' => by omega)
  exact h2.keep (fun b hb _ => hk b (by omega))
theorem toMapS_any (v : Value) (l : List MapD) (w : World) (hv : Reads w w.heap.size v (mapsT 52 l)) (hn : l.length + sumM l ≤ 1048576) :
    Calls Try.prog 17 #[v] w (NewM w l) := by
  obtain ⟨A, c, rfl, _, _⟩ := Reads.lenN hv
  have hmk := run_makeMaps l.length (by omega)
  have HV := Lib.hid hv
  have HT := Lib.hid toMap_any
  clear hv
  go_enter Try.func17, Try.ntmps17
  go_wp2
  go_loopw [4] (fun i wr => ∃ (k : Nat) (us : List Value), k ≤ l.length ∧ i = .int .i64 k ∧ RowV wr w.heap.size (l.length * 3) 53 (mvl (l.take k) us) ∧ OwnsL wr (fun b => w.heap.size < b) us ((l.take k).map mapI) ∧ Below w.heap.size w wr) (fun i _ => l.length - (intOf i).toNat)
  case atStart => exact ⟨0, [], Nat.zero_le _, rfl, by have h := RowV.new w (madeCells #[.string ⟨#[]⟩, .bool false, .slice none 0 0] (l.length * 3)) 53; rw [size_madeCells] at h; exact h, OwnsL.nil _ _, (Below.refl _ _).alloc (Nat.le_refl _) _⟩
  case round =>
    obtain ⟨k, us, hk, rfl, hrow, hown, hb⟩ := hrel
    by_cases hlt : k < l.length
    · obtain ⟨b, off, rfl, hbb, hc⟩ := (HV.out.on hb).maps hlt
      obtain ⟨A1, d1, ⟨c0, c1, c2⟩, _, _, r1⟩ := hc k hlt
      have hl := sumM_mem (List.getElem_mem hlt)
      have HX : Hid (us.length = (l.take k).length) := Lib.hid (by rw [hown.1]; simp)
      have hg := hrow.lt
      have R1 := Lib.hid r1
      clear hc r1
      have i1 : (k : Int) < (l.length : Int) := by omega
      have i2 : (0 : Int) ≤ (k : Int) := by omega
      go_wp2_with fail
      refine (HT.out l[k] _ _ R1.out (by omega)).mono ?_
      rintro e w1 ⟨vv, rfl, o2, b1⟩
      obtain ⟨Av, cv, rfl, _, _⟩ := o2.reads.lenN
      have hrow1 := hrow.keep (b1.block _ hg)
      have hb1 := hb.trans (b1.mono hb.size)
      obtain ⟨y0, d0⟩ := hrow1.cell (k := k * 3) (by omega)
      obtain ⟨y1, d3⟩ := hrow1.cell (k := k * 3 + 1) (by omega)
      obtain ⟨y2, d4⟩ := hrow1.cell (k := k * 3 + 2) (by omega)
      have f0 := hrow1.frozen (k * 3)
      have f1 := hrow1.frozen (k * 3 + 1)
      have f2 := hrow1.frozen (k * 3 + 2)
      have HR := Lib.hid (hrow1.map (j := k) HX.out (by simp; omega) hlt l[k] (.slice Av (l[k]).l.length cv))
      have HO := Lib.hid (OwnsL.pushM hown b1 o2 hg (far3 w1 w.heap.size (k * 3) (k * 3 + 1) (k * 3 + 2) (.string (l[k]).a) (.bool (l[k]).f) (.slice Av (l[k]).l.length cv)))
      have HB := Lib.hid (bsM (i := k * 3) (j := k * 3 + 1) (k := k * 3 + 2) (u1 := .string (l[k]).a) (u2 := .bool (l[k]).f) (u3 := .slice Av (l[k]).l.length cv) hb1 (Nat.le_refl w.heap.size))
      clear hrow hrow1 hown hb1 hb o2 b1 c0 c1 c2
      go_wp2
      go_roundw
      case rel =>
        refine ⟨k + 1, us ++ [.slice Av (l[k]).l.length cv], by omega, by go_num, ?_, ?_, HB.out⟩
        · rw [List.take_succ_eq_append_getElem hlt]
          exact HR.out
        · have h := HO.out
          rw [List.take_succ_eq_append_getElem hlt, List.map_append]
          exact h
      case measure => simp [intOf]; omega
    · go_wp2
      go_ret
      have e : k = l.length := by omega
      subst e
      rw [List.take_length] at hown hrow
      exact ⟨_, rfl, hrow.owns hown.maps (maps_len l) (by unfold maxLen; omega), hb⟩
theorem eqMap_same (k : MapD) (v u : Value) (w : World) (hv : Reads w w.heap.size v (intsD k.l)) (hu : Reads w w.heap.size u (intsD k.l)) (hn : k.l.length ≤ 1100000) :
    Calls Try.prog 46 #[.agg #[.string k.a, .bool k.f, v], .agg #[.string k.a, .bool k.f, u]] w (SaysBool w true) := by
  have HI := Lib.hid (fun W b => eqIntS_same v u k.l W (hv.on b) (hu.on b) hn)
  obtain ⟨A, c, rfl, _, _⟩ := hv.lenN
  obtain ⟨A', c', rfl, _, _⟩ := hu.lenN
  have HB := Lib.hid (bal2 w (.cells #[.string k.a, .bool k.f, .slice A k.l.length c] 53) (.cells #[.string k.a, .bool k.f, .slice A' k.l.length c'] 53))
  obtain ⟨q0, q1⟩ := al2 w (.cells #[.string k.a, .bool k.f, .slice A k.l.length c] 53) (.cells #[.string k.a, .bool k.f, .slice A' k.l.length c'] 53)
  have Q0 := Lib.hid q0
  have Q1 := Lib.hid q1
  clear hv hu q0 q1
  go_enter Try.func46, Try.ntmps46
  go_upto_region 1 with (fail)
  generalize (w.alloc (.cells #[.string k.a, .bool k.f, .slice A k.l.length c] 53)).alloc (.cells #[.string k.a, .bool k.f, .slice A' k.l.length c'] 53) = W at *
  obtain ⟨x0, x1, x2, x3⟩ := box3M Q0.out
  obtain ⟨y0, y1, y2, y3⟩ := box3M Q1.out
  go_wp2_with fail
  refine (HI.out _ HB.out).mono ?_
  rintro e w1 ⟨rfl, b1⟩
  have B1 := Lib.hid (bstep HB.out b1)
  clear x0 x1 x2 x3 y0 y1 y2 y3 b1
  go_wp2
  go_ret
  exact ⟨rfl, B1.out⟩
set_option maxHeartbeats 1000000 in
theorem eqMapS_same {t t' : TypeId} (v u : Value) (l : List MapD) (w : World) (hv : Reads w w.heap.size v (mapsT t l)) (hu : Reads w w.heap.size u (mapsT t' l)) (hs : SmallM l) :
    Calls Try.prog 19 #[v, u] w (SaysBool w true) := by
  obtain ⟨A, c, rfl, _, _⟩ := Reads.lenN hv
  obtain ⟨A', c', rfl, _, _⟩ := Reads.lenN hu
  have hne : ((l.length : Int) != (l.length : Int)) = false := by simp
  have hln : l.length ≤ 1100000 := hs.1
  have HV := Lib.hid hv
  have HU := Lib.hid hu
  have HS := Lib.hid hs
  clear hv hu hs
  go_enter Try.func19, Try.ntmps19
  go_wp2
  go_loopw [5] (fun i wr => ∃ k : Nat, k ≤ l.length ∧ i = .int .i64 k ∧ Hid (Below w.heap.size w wr)) (fun i _ => l.length - (intOf i).toNat)
  case atStart => exact ⟨0, Nat.zero_le _, rfl, Lib.hid (Below.refl _ _)⟩
  case round =>
    obtain ⟨k, hk, rfl, HB⟩ := hrel
    by_cases hlt : k < l.length
    · obtain ⟨b, off, rfl, hbb, hc⟩ := (HV.out.on HB.out).maps hlt
      obtain ⟨b2, off2, rfl, hbb2, hc2⟩ := (HU.out.on HB.out).maps hlt
      obtain ⟨A1, d1, ⟨c0, c1, c2⟩, _, _, r1⟩ := hc k hlt
      obtain ⟨A2, d2, ⟨e0, e1, e2⟩, _, _, r2⟩ := hc2 k hlt
      have hl := Lib.hid (HS.out.at hlt).2
      have R1 := Lib.hid r1
      have R2 := Lib.hid r2
      clear hc hc2 r1 r2
      have i1 : (k : Int) < (l.length : Int) := by omega
      have i2 : (0 : Int) ≤ (k : Int) := by omega
      go_wp2
      go_still_tail 8, (by kernel_rfl)
      change wpList _ _ _ _ _ wr.drew
      have HB1 := Lib.hid (bstep HB.out (Below.drew1 _))
      have Q1 := Lib.hid (R1.out.on (Below.drew1 _))
      have Q2 := Lib.hid (R2.out.on (Below.drew1 _))
      clear R1 R2
      generalize wr.drew = wd at *
      go_wp2_with fail
      refine (eqMap_same l[k] _ _ _ Q1.out Q2.out hl.out).mono ?_
      rintro e w2 ⟨rfl, b2⟩
      have HB2 := Lib.hid (bstep HB1.out b2)
      clear b2
      go_wp2
      go_roundw
      case rel => exact ⟨k + 1, by omega, by go_num, HB2⟩
      case measure => simp [intOf]; omega
    · go_wp2
      go_ret
      exact ⟨rfl, HB.out⟩
set_option maxHeartbeats 1000000 in
/-- The strict form: the block is as long as the slice's capacity says. -/
theorem markIntS_own (v : Value) (S : Nat → Prop) (l : List Int) (k : Int) (w : World) (hv : Owns w S v (intsD l)) (hn : l.length ≤ 1100000) (h0 : 0 ≤ k) (h1 : k ≤ 1099511627776) :
    Calls Try.prog 56 #[v, .int .i64 k] w fun e w' => e = .returned (.int .i64 (k + (l.length : Nat))) ∧ Owns w' S v (intsD (mkI k l)) ∧ Only S w w' := by
  rcases Owns.rw' hv with ⟨rfl, hl, hc⟩ | ⟨g, cap, xs, rfl, hS, hR, hcap, hmax, hl, hxl, ho⟩
  · have : l = [] := List.length_eq_zero_iff.1 hl
    subst this
    go_enter Try.func56, Try.ntmps56
    go_wp2
    go_loopw [1, 5] (fun q i wr => i = .int .i64 0 ∧ q = .int .i64 k ∧ w = wr) (fun _ _ _ => 0)
    case atStart => exact ⟨rfl, rfl, rfl⟩
    case round =>
      obtain ⟨rfl, rfl, rfl⟩ := hrel
      go_wp2
      go_ret
      exact ⟨by simp, .nil _ _ _, Only.refl _ _⟩
  · have hxs := lits_eq ho.reads
    subst hxs
    have HR := Lib.hid hR
    clear hR ho hxl hl hv
    go_enter Try.func56, Try.ntmps56
    go_wp2
    go_loopw [1, 5] (fun q i wr => ∃ j : Nat, j ≤ l.length ∧ i = .int .i64 j ∧ q = .int .i64 (k + (j : Nat)) ∧ Hid (Rw wr g 3 1 l.length cap ((mkL mI sI k l j).map iV)) ∧ Hid (Only S w wr)) (fun _ i _ => l.length - (intOf i).toNat)
    case atStart => exact ⟨0, Nat.zero_le _, rfl, by simp, by rw [mkL_zero]; exact HR, Lib.hid (Only.refl _ _)⟩
    case round =>
      clear HR
      obtain ⟨j, hj, rfl, rfl, HR, HO⟩ := hrel
      by_cases hlt : j < l.length
      · have hlm : j < ((mkL mI sI k l j).map iV).length := by simp [mkL_length]; exact hlt
        obtain ⟨y, c1⟩ : ∃ y : Int, wr.cell? ⟨g, j, none⟩ = some (.int .i64 y) := ⟨_, (HR.out.cell hlm).trans (by rw [List.getElem_map]; rfl)⟩
        have f1 := HR.out.frozen j
        have hs := HR.out.set j (iV (k + (j : Nat)))
        rw [← List.map_set, show (mkL mI sI k l j).set j (k + (j : Nat)) = mkL mI sI k l (j + 1) by rw [mkL_succ _ _ _ _ _ hlt, totI l j hj]; rfl] at hs
        have HS := Lib.hid hs
        have HO2 := Lib.hid (HO.out.setCell (j := j) hS (iV (k + (j : Nat))))
        unfold iV at HS HO2
        have i1 : (j : Int) < (l.length : Int) := by omega
        have i2 : (0 : Int) ≤ (j : Int) := by omega
        clear HR HO hlm hs
        have q1 : k + (j : Int) ≤ 1199511627776 := by omega
        have q0 : 0 ≤ k + (j : Int) := by omega
        generalize hq : k + (j : Int) = q at *
        have HQ := Lib.hid hq
        clear hq
        go_wp2
        go_roundw
        case rel => exact ⟨j + 1, by omega, by go_num, by rw [← HQ.out]; go_num, HS, HO2⟩
        case measure => simp [intOf]; omega
      · go_wp2
        go_ret
        have e : j = l.length := by omega
        subst e
        refine ⟨rfl, ?_, HO.out⟩
        have hml : (mkI k l).length = l.length := mkL_length _ _ _ _ _
        have h := HR.out
        have hh := Rw.owns (S := S) (cs := (mkI k l).map fun n => .lit (iV n)) h hS (ints_litL _ _ _) hcap hmax (by simp [hml])
        unfold intsD
        rw [hml]
        exact hh
def mMap (k : Int) (m : MapD) : MapD := ⟨markT k, ((k + 1).tmod 3 == 0), mkI (k + 1 + 1) m.l⟩
def sMap (m : MapD) : Nat := 2 + m.l.length
theorem totM (l : List MapD) (i : Nat) : totL sMap l i ≤ 2 * l.length + sumM l := by
  induction l generalizing i with
  | nil => cases i <;> simp [totL]
  | cons a l ih =>
    cases i with
    | zero => simp [totL]
    | succ i => have := ih i; simp only [totL, sMap, sumM, List.length_cons]; omega
theorem Rw.setMap {w : World} {g cap j : Nat} {t : TypeId} {l : List MapD} {us : List Value} (h : Rw w g t 3 l.length cap (mvl l us)) (hu : us.length = l.length) (hj : j < l.length) (k : MapD) :
    Rw ((w.setCell ⟨g, j * 3, none⟩ (.string k.a)).setCell ⟨g, j * 3 + 1, none⟩ (.bool k.f)) g t 3 l.length cap (mvl (l.set j k) us) := by
  have h2 := (Rw.set h (j * 3) (.string k.a)).set (j * 3 + 1) (.bool k.f)
  have e := mvl_set hu hj k (us[j]'(by omega))
  rw [List.set_getElem_self] at e
  have hl := mvl_len hu
  have h5 : (((mvl l us).set (j * 3) (.string k.a)).set (j * 3 + 1) (.bool k.f)).set (j * 3 + 2) (us[j]'(by omega)) = ((mvl l us).set (j * 3) (.string k.a)).set (j * 3 + 1) (.bool k.f) := by
    refine List.ext_getElem? (fun i => ?_)
    by_cases hi : i = j * 3 + 2
    · subst hi
      rw [List.getElem?_set_self (by simp [hl]; omega), List.getElem?_set_ne (by omega), List.getElem?_set_ne (by omega)]
      exact (mvl_get hu hj).2.2.symm
    · rw [List.getElem?_set_ne (by omega)]
  rw [h5] at e
  rw [e]
  exact h2
def MarkedM (t : TypeId) (w : World) (S : Nat → Prop) (v : Value) (k : Int) (l : List MapD) (e : Ending) (w' : World) : Prop := e = .returned (.int .i64 (k + (totL sMap l l.length : Nat))) ∧ Owns w' S v (mapsT t (mkL mMap sMap k l l.length)) ∧ Only S w w'
set_option maxHeartbeats 2000000 in
theorem markMapS_any {t : TypeId} (v : Value) (S : Nat → Prop) (l : List MapD) (k : Int) (w : World) (hv : Owns w S v (mapsT t l)) (hs : SmallM l) (h0 : 0 ≤ k) (h1 : k ≤ 274877906944) :
    Calls Try.prog 24 #[v, .int .i64 k] w (MarkedM t w S v k l) := by
  rcases Owns.maps hv with ⟨rfl, rfl⟩ | ⟨g, cap, us, rfl, hS, hR, hcap, hmax, hu, ho⟩
  · go_enter Try.func24, Try.ntmps24
    go_wp2
    go_loopw [1, 5] (fun q i wr => i = .int .i64 0 ∧ q = .int .i64 k ∧ w = wr) (fun _ _ _ => 0)
    case atStart => exact ⟨rfl, rfl, rfl⟩
    case round =>
      obtain ⟨rfl, rfl, rfl⟩ := hrel
      go_wp2
      go_ret
      exact ⟨by simp [totL], .nil _ _ _, Only.refl _ _⟩
  · have HU := Lib.hid hu
    have TOT : Hid (∀ i, totL sMap l i ≤ 5300000) := Lib.hid (fun i => by have := totM l i; have := hs.1; have := hs.2.1; omega)
    have HS := Lib.hid hs
    have HR := Lib.hid hR
    have HO := Lib.hid ho
    have hln : l.length ≤ 1100000 := hs.1
    clear hv hR ho hu hs
    go_enter Try.func24, Try.ntmps24
    go_wp2
    go_loopw [1, 5] (fun q i wr => ∃ j : Nat, j ≤ l.length ∧ i = .int .i64 j ∧ q = .int .i64 (k + (totL sMap l j : Nat)) ∧ Hid (Rw wr g t 3 l.length cap (mvl (mkL mMap sMap k l j) us)) ∧ Hid (OwnsL wr (fun b => S b ∧ b ≠ g) us ((mkL mMap sMap k l j).map mapI)) ∧ Hid (Only S w wr)) (fun _ i _ => l.length - (intOf i).toNat)
    case atStart => exact ⟨0, Nat.zero_le _, rfl, by simp [totL], by rw [mkL_zero]; exact HR, by rw [mkL_zero]; exact HO, Lib.hid (Only.refl _ _)⟩
    case round =>
      clear HR HO
      obtain ⟨j, hj, rfl, rfl, HR, HO, HG⟩ := hrel
      by_cases hlt : j < l.length
      · have hml : Hid ((mkL mMap sMap k l j).length = l.length) := Lib.hid (mkL_length _ _ _ _ _)
        have hat : Hid ((mkL mMap sMap k l j)[j]'(by rw [hml.out]; exact hlt) = l[j]) := Lib.hid (mkL_at _ _ _ _ _ hlt)
        have hsc : Hid (mkL mMap sMap k l (j + 1) = (mkL mMap sMap k l j).set j (mMap (k + (totL sMap l j : Nat)) l[j])) := Lib.hid (mkL_succ _ _ _ _ _ hlt)
        have T1 : Hid (totL sMap l (j + 1) = totL sMap l j + (2 + (l[j]).l.length)) := Lib.hid (totL_succ sMap l j hlt)
        have t1 := TOT.out j
        have hlj := (HS.out.at hlt).2
        have i1 : (j : Int) < (l.length : Int) := by omega
        have i2 : (0 : Int) ≤ (j : Int) := by omega
        have hqq : ∃ q : Int, k + ((totL sMap l j : Nat) : Int) = q := ⟨_, rfl⟩
        obtain ⟨q, hq⟩ := hqq
        have q0 : 0 ≤ q := by omega
        have q1 : q ≤ 274890000000 := by omega
        rw [hq] at hsc
        have HQ := Lib.hid hq
        rw [hq]
        clear hq t1
        generalize mkL mMap sMap k l j = L at *
        obtain ⟨L', hL'⟩ : ∃ L', mkL mMap sMap k l (j + 1) = L' := ⟨_, rfl⟩
        rw [hL'] at hsc
        have HLL := Lib.hid hL'
        clear hL'
        have HT := Lib.hid (markText_any q wr q0 (by omega))
        have HU3 : Hid ((q + 1).tmod 3 = (q + 1) % 3) := Lib.hid (Int.tmod_eq_emod_of_nonneg (by omega))
        have HF3 : Hid ((mMap q l[j]).f = ((q + 1) % 3 == 0)) := Lib.hid (by unfold mMap; rw [HU3.out])
        have huj : j < us.length := by rw [HU.out]; exact hlt
        go_wp2_with fail
        refine HT.out.mono ?_
        rintro e w1 ⟨rfl, b1⟩
        have hr1 : Rw w1 g t 3 l.length cap (mvl L us) := HR.out.keep (b1.block _ HR.out.lt)
        have hlL : L.length = l.length := hml.out
        rw [← hlL] at hr1
        have hu2 : us.length = L.length := by rw [HU.out, hlL]
        have hgl := mvl_len hu2
        obtain ⟨m0, m1, m2⟩ := mvl_get hu2 (k := j) (by omega)
        have cc : ∀ i v, (mvl L us)[i]? = some v → w1.cell? ⟨g, i, none⟩ = some v := by
          intro i v hi
          have hlt2 : i < (mvl L us).length := by
            rcases Nat.lt_or_ge i (mvl L us).length with h | h
            · exact h
            · rw [List.getElem?_eq_none h] at hi; cases hi
          rw [List.getElem?_eq_getElem hlt2] at hi
          rw [Rw.cell hr1 hlt2, hi]
        obtain ⟨y0, d0⟩ : ∃ y, w1.cell? ⟨g, j * 3, none⟩ = some y := ⟨_, cc _ _ m0⟩
        obtain ⟨y1, d1⟩ : ∃ y, w1.cell? ⟨g, j * 3 + 1, none⟩ = some y := ⟨_, cc _ _ m1⟩
        have d2 := cc _ _ m2
        have f0 := Rw.frozen hr1 (j * 3)
        have f1 := Rw.frozen hr1 (j * 3 + 1)
        have ho1 := HO.out.on b1
        have hj2 : j < (L.map mapI).length := by rw [List.length_map, hlL]; exact hlt
        have HR2 := Lib.hid (Rw.setMap hr1 hu2 (j := j) (by omega) (mMap q l[j]))
        rw [HF3.out] at HR2
        have hw2 : ∀ b, b ≠ g → ((w1.setCell ⟨g, j * 3, none⟩ (.string (mMap q l[j]).a)).setCell ⟨g, j * 3 + 1, none⟩ (.bool ((q + 1) % 3 == 0))).heap[b]? = w1.heap[b]? := fun b hb => (Below.heap_setCell _ _ _ _ (by simpa using hb)).trans (Below.heap_setCell _ _ _ _ (by simpa using hb))
        have hg2 : Only S w ((w1.setCell ⟨g, j * 3, none⟩ (.string (mMap q l[j]).a)).setCell ⟨g, j * 3 + 1, none⟩ (.bool ((q + 1) % 3 == 0))) := (((HG.out.trans (Only.of_below b1 S)).setCell hS _).setCell hS _)
        have ho2 := ho1.keep (w' := (w1.setCell ⟨g, j * 3, none⟩ (.string (mMap q l[j]).a)).setCell ⟨g, j * 3 + 1, none⟩ (.bool ((q + 1) % 3 == 0))) (fun b hb _ => hw2 b hb.2)
        obtain ⟨T, hT, hTS, hup⟩ := ho2.pick huj hj2
        rw [List.getElem_map, hat.out] at hT
        obtain ⟨A1, c1, e1, _, _⟩ := Reads.lenN (show Reads _ _ us[j] (.row _ _ _ _) from hT.reads)
        rw [e1] at hT d2 hup
        have HM := Lib.hid (markIntS_own (.slice A1 (l[j]).l.length c1) T (l[j]).l (q + 1 + 1) _ hT hlj (by omega) (by omega))
        have UP := Lib.hid hup
        have TS := Lib.hid hTS
        have HG2 := Lib.hid hg2
        have HQ2 : Hid (k + ((totL sMap l (j + 1) : Nat) : Int) = q + 1 + 1 + ((l[j]).l.length : Nat)) := Lib.hid (by have := T1.out; have := HQ.out; omega)
        have ML : Hid (L'.map mapI = (L.map mapI).set j (intsD (mkI (q + 1 + 1) (l[j]).l))) := Lib.hid (by rw [hsc.out, List.map_set]; rfl)
        have HL2 : Hid (L'.length = l.length) := Lib.hid (by rw [hsc.out, List.length_set, hlL])
        have HRG : Hid (∀ w5, Only T ((w1.setCell ⟨g, j * 3, none⟩ (.string (mMap q l[j]).a)).setCell ⟨g, j * 3 + 1, none⟩ (.bool ((q + 1) % 3 == 0))) w5 → Rw w5 g t 3 l.length cap (mvl L' us)) := Lib.hid (fun w5 h5 => by
          have h6 := HR2.out
          rw [← hsc.out, hlL] at h6
          exact Rw.keep h6 (h5.block g (Rw.lt h6) (fun hh => (hTS g hh).2 rfl)))
        clear hT hup hTS hg2 ho1 ho2 HR HO HG HR2 hr1 b1 m0 m1 m2 cc hw2 hat hlL hu2 hgl hj2 hml e1 HT
        have hma : (mMap q l[j]).a = markT q := rfl
        rw [hma] at HM UP HG2 HRG
        go_wp2_with fail
        refine HM.out.mono ?_
        rintro e w5 ⟨rfl, o5, g5⟩
        have R5 := Lib.hid (HRG.out w5 g5)
        have O5 := Lib.hid (UP.out w5 _ o5 g5)
        have G5 := Lib.hid (HG2.out.trans (g5.mono (fun b hb => (TS.out b hb).1)))
        clear o5 g5 HM d0 d1 d2 f0 f1 UP HRG HG2
        go_wp2
        go_roundw
        case rel => exact ⟨j + 1, by omega, by go_num, by rw [HQ2.out], by rw [HLL.out]; exact R5, by rw [HLL.out, ML.out]; exact O5, G5⟩
        case measure => simp [intOf]; omega
      · go_wp2
        go_ret
        have e : j = l.length := by omega
        subst e
        have hml : (mkL mMap sMap k l l.length).length = l.length := mkL_length _ _ _ _ _
        refine ⟨rfl, ?_, HG.out⟩
        have h := HR.out
        rw [← hml] at h
        have hcap2 : (mkL mMap sMap k l l.length).length ≤ cap := by rw [hml]; exact hcap
        have hh := Rw.maps (S := S) (l := mkL mMap sMap k l l.length) (by rw [mkL_length] at h ⊢; exact h) hS hcap2 hmax HO.out
        rw [hml] at hh
        exact hh
set_option maxHeartbeats 2000000 in
theorem heldMapS_any {t : TypeId} (v : Value) (l : List MapD) (k : Int) (w : World) (hv : Reads w w.heap.size v (mapsT t (mkL mMap sMap k l l.length))) (hs : SmallM l) (h0 : 0 ≤ k) (h1 : k ≤ 274877906944) :
    Calls Try.prog 25 #[v, .int .i64 k] w fun e w' => e = .returned (.int .i64 (k + (totL sMap l l.length : Nat))) ∧ Below w.heap.size w w' := by
  have hml : (mkL mMap sMap k l l.length).length = l.length := mkL_length _ _ _ _ _
  obtain ⟨A, c, rfl, _, _⟩ := Reads.lenN hv
  rw [hml]
  have HV := Lib.hid hv
  rw [hml] at HV
  have TOT : Hid (∀ i, totL sMap l i ≤ 5300000) := Lib.hid (fun i => by have := totM l i; have := hs.1; have := hs.2.1; omega)
  have HS := Lib.hid hs
  have hln : l.length ≤ 1100000 := hs.1
  clear hv hs
  go_enter Try.func25, Try.ntmps25
  go_wp2
  go_loopw [1, 5] (fun q i wr => ∃ j : Nat, j ≤ l.length ∧ i = .int .i64 j ∧ q = .int .i64 (k + (totL sMap l j : Nat)) ∧ Hid (Below w.heap.size w wr)) (fun _ i _ => l.length - (intOf i).toNat)
  case atStart => exact ⟨0, Nat.zero_le _, rfl, by simp [totL], Lib.hid (Below.refl _ _)⟩
  case round =>
    obtain ⟨j, hj, rfl, rfl, HB⟩ := hrel
    by_cases hlt : j < l.length
    · have hlm : j < (mkL mMap sMap k l l.length).length := by rw [hml]; exact hlt
      obtain ⟨b, off, rfl, hbb, hc⟩ := (HV.out.on HB.out).maps hlm
      obtain ⟨A1, d1, hf, _, _, r1⟩ := hc j hlm
      have eg : (mkL mMap sMap k l l.length)[j]'hlm = mMap (k + (totL sMap l j : Nat)) l[j] := mkL_get _ _ _ _ _ _ hlt hlt
      rw [eg] at hf r1
      have T1 : Hid (totL sMap l (j + 1) = totL sMap l j + (2 + (l[j]).l.length)) := Lib.hid (totL_succ sMap l j hlt)
      have t1 := TOT.out j
      have hlj := (HS.out.at hlt).2
      have i1 : (j : Int) < (l.length : Int) := by omega
      have i2 : (0 : Int) ≤ (j : Int) := by omega
      have hqq : ∃ q : Int, k + ((totL sMap l j : Nat) : Int) = q := ⟨_, rfl⟩
      obtain ⟨q, hq⟩ := hqq
      have q0 : 0 ≤ q := by omega
      have q1 : q ≤ 274890000000 := by omega
      rw [hq] at hf r1
      have HQ := Lib.hid hq
      rw [hq]
      clear hq t1 hc eg
      have hmi : (mkI (q + 1 + 1) (l[j]).l).length = (l[j]).l.length := mkL_length _ _ _ _ _
      have hf2 : MapF wr b (off + j * 3) ⟨markT q, ((q + 1).tmod 3 == 0), []⟩ (.slice A1 (l[j]).l.length d1) := by
        have h := hf
        unfold mMap at h
        rw [hmi] at h
        exact h
      have hr2 : Reads wr wr.heap.size (.slice A1 (l[j]).l.length d1) (intsD (mkI (q + 1 + 1) (l[j]).l)) := by
        have h := r1
        unfold mMap at h
        rw [hmi] at h
        exact h
      have HF := Lib.hid hf2
      have R1 := Lib.hid hr2
      have HT := Lib.hid (fun W => markText_any q W q0 (by omega))
      have HQ2 : Hid (k + ((totL sMap l (j + 1) : Nat) : Int) = q + 1 + 1 + ((l[j]).l.length : Nat)) := Lib.hid (by have := T1.out; have := HQ.out; omega)
      clear hf hf2 r1 hr2 hmi
      have c0 := HF.out.1
      have n0 : ((markT q).toList == (markT q).toList) = true := by simp
      have n1 : (((q + 1).tmod 3 == 0) != ((q + 1).tmod 3 == 0)) = false := by simp
      have d9 : decide (q + 1 + 1 + (((l[j]).l.length : Nat) : Int) < 0) = false := decide_eq_false (by omega)
      go_wp2
      go_region_held3 (fun W => W.cell? ⟨b, off + j * 3, none⟩ = some (.string (markT q)))
        (first | with_reducible exact (HF.out.on hbb B8).1 | with_reducible exact (HF.out.on hbb (Below.drew1 _)).1 | exact HF.out.1 | fail)
        (first
          | (go_at_call 55; refine (HT.out _).mono ?_; rintro r w8 ⟨rfl, b8⟩; have B8 := bstep (Below.drew1 _) b8)
          | fail)
      all_goals
        have BC := Lib.hid (bstep HB.out B8)
        obtain ⟨_, c1, c2⟩ := HF.out.on hbb B8
        have RC := Lib.hid (R1.out.on B8)
        clear B8 b8 c0
        go_wp2_with fail
        refine (heldIntS_any _ (l[j]).l (q + 1 + 1) _ RC.out hlj (by omega) (by omega)).mono ?_
        rintro e w9 ⟨rfl, rfl⟩
        go_wp2
        go_roundw
        case rel => exact ⟨j + 1, by omega, by go_num, by rw [HQ2.out], BC⟩
        case measure => simp [intOf]; omega
    · go_wp2
      go_ret
      have e : j = l.length := by omega
      subst e
      exact ⟨rfl, HB.out⟩
end Go.Proofs.Ytcimpcocgmlmoaa
