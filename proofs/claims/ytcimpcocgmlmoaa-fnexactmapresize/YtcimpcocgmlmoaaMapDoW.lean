/- Contracts for impl.writableMap and MapWrite of both sides. Conditions: at most 1100000 Maps, letters and blocks. -/
import Derived.Test.YtcimpcocgmlmoaaMapDoK
namespace Go.Proofs.Ytcimpcocgmlmoaa
open Go.RowKit
set_option maxRecDepth 100000
set_option linter.unusedSimpArgs false
set_option linter.unusedVariables false

def hasMB (x : MapD) (b : Int) : Bool := decide (0 ≤ b) && decide (b < (x.l.length : Int))
def wcodeM (s : ByteArray) (l : List MapD) : Int := if codeM s l = 0 then (if (mapD l s).f then 5 else 0) else codeM s l
def writeM (s : ByteArray) (b n : Int) (l : List MapD) : List MapD × Int :=
  if wcodeM s l = 0 then (if hasMB (mapD l s) b && wordB n then (l.set (mapJ s l) { mapD l s with l := (mapD l s).l.set b.toNat n }, 0) else (l, 4)) else (l, wcodeM s l)
def resizeM (s : ByteArray) (n : Int) (l : List MapD) : List MapD × Int :=
  if wcodeM s l = 0 then (if sizeMB n then (l.set (mapJ s l) { mapD l s with l := resK (mapD l s).l n.toNat }, 0) else (l, 4)) else (l, wcodeM s l)
theorem wcodeM_zero {s : ByteArray} {l : List MapD} (h : wcodeM s l = 0) : codeM s l = 0 ∧ (mapD l s).f = false ∧ mapK s l = (mapJ s l : Int) ∧ mapJ s l < l.length := by
  unfold wcodeM at h
  by_cases h1 : codeM s l = 0
  · rw [if_pos h1] at h
    obtain ⟨h2, h3⟩ := codeM_zero h1
    cases h4 : (mapD l s).f
    · exact ⟨h1, rfl, h2, h3⟩
    · rw [h4] at h; simp at h
  · rw [if_neg h1] at h
    exact absurd h h1
/-- What stops a change: the name, or the Map is fixed. -/
theorem wcodeM_cases (s : ByteArray) (l : List MapD) : (codeM s l ≠ 0 ∧ wcodeM s l = codeM s l) ∨ (codeM s l = 0 ∧ (mapD l s).f = true ∧ wcodeM s l = 5) ∨ (codeM s l = 0 ∧ (mapD l s).f = false ∧ wcodeM s l = 0) := by
  unfold wcodeM
  by_cases h1 : codeM s l = 0
  · rw [if_pos h1]
    cases h4 : (mapD l s).f
    · exact .inr (.inr ⟨h1, rfl, rfl⟩)
    · exact .inr (.inl ⟨h1, rfl, rfl⟩)
  · rw [if_neg h1]
    exact .inl ⟨h1, rfl⟩
theorem sumM_set (l : List MapD) (k : Nat) (x : MapD) (h : k < l.length) : sumM (l.set k x) + ((l[k]).a.size + (l[k]).l.length) = sumM l + (x.a.size + x.l.length) := by
  induction l generalizing k with
  | nil => simp at h
  | cons a l ih =>
    cases k with
    | zero => simp [sumM]; omega
    | succ k => have := ih k (by simpa using h); simp only [List.set_cons_succ, sumM, List.getElem_cons_succ]; omega
theorem setM_small {l : List MapD} {k : Nat} {x : MapD} (h : SmallM l) (hk : k < l.length) (ha : x.a = (l[k]).a) (hx : x.l.length ≤ 1100000) (hsum : sumM l + x.l.length ≤ 3000000) : SmallM (l.set k x) := by
  have h1 := sumM_set l k x hk
  rw [ha] at h1
  refine ⟨by rw [List.length_set]; exact h.1, by omega, fun y hy => ?_⟩
  rcases List.mem_or_eq_of_mem_set hy with hy | rfl
  · exact h.2.2 y hy
  · exact hx
theorem writeM_small {l : List MapD} {s : ByteArray} {b n : Int} (h : cntM l ≤ 1048576) : SmallM (writeM s b n l).1 := by
  have h0 := cntM_small h
  have h9 : sumM l ≤ 1048576 := by unfold cntM at h; omega
  unfold writeM
  by_cases h1 : wcodeM s l = 0
  · obtain ⟨_, _, _, hJ⟩ := wcodeM_zero h1
    rw [if_pos h1]
    cases h2 : hasMB (mapD l s) b && wordB n
    · exact h0
    · have hm := sumM_mem (List.getElem_mem hJ)
      rw [mapD_at hJ]
      exact setM_small h0 hJ rfl (by simp; omega) (by simp; omega)
  · rw [if_neg h1]; exact h0
theorem resizeM_small {l : List MapD} {s : ByteArray} {n : Int} (h : cntM l ≤ 1048576) : SmallM (resizeM s n l).1 := by
  have h0 := cntM_small h
  have h9 : sumM l ≤ 1048576 := by unfold cntM at h; omega
  unfold resizeM
  by_cases h1 : wcodeM s l = 0
  · obtain ⟨_, _, _, hJ⟩ := wcodeM_zero h1
    rw [if_pos h1]
    cases h2 : sizeMB n
    · exact h0
    · unfold sizeMB at h2
      simp only [Bool.and_eq_true, decide_eq_true_eq] at h2
      rw [mapD_at hJ]
      exact setM_small h0 hJ rfl (by rw [resK_len]; omega) (by rw [resK_len]; omega)
  · rw [if_neg h1]; exact h0
/-- Owned Maps, taken apart: the row in block g with room for cap, the slices of the blocks us. -/
def CpC (w : World) (base g cap : Nat) (l : List MapD) (us : List Value) : Prop := Rw w g 53 3 l.length cap (mvl l us) ∧ us.length = l.length ∧ base ≤ g ∧ OwnsL w (fun b => base ≤ b ∧ b ≠ g) us (l.map mapI) ∧ l.length ≤ cap ∧ cap ≤ maxLen
theorem CpC.on {w w' : World} {base g cap : Nat} {l : List MapD} {us : List Value} (h : CpC w base g cap l us) (hb : Below w.heap.size w w') : CpC w' base g cap l us := ⟨h.1.keep (hb.block g (Rw.lt h.1)), h.2.1, h.2.2.1, h.2.2.2.1.on hb, h.2.2.2.2⟩
theorem CpM.c {w : World} {base g : Nat} {l : List MapD} {us : List Value} (h : CpM w base g l us) (hl : l.length ≤ 1100000) : CpC w base g l.length l us := ⟨h.1, h.2.1, h.2.2.1, h.2.2.2, Nat.le_refl _, by unfold maxLen; omega⟩
theorem CpC.owns {w : World} {base g cap : Nat} {l : List MapD} {us : List Value} (h : CpC w base g cap l us) : Owns w (fun b => base ≤ b) (.slice (some ⟨g, 0, none⟩) l.length cap) (mapsT 53 l) := Rw.maps h.1 h.2.2.1 h.2.2.2.2.1 h.2.2.2.2.2 h.2.2.2.1
theorem CpC.of {w : World} {base : Nat} {v : Value} {l : List MapD} (h : Owns w (fun b => base ≤ b) v (mapsT 53 l)) (hl : 0 < l.length) : ∃ g cap us, v = .slice (some ⟨g, 0, none⟩) l.length cap ∧ CpC w base g cap l us := by
  rcases Owns.maps h with ⟨_, h0⟩ | ⟨g, cap, us, rfl, hg, hR, hc, hmx, hu, ho⟩
  · rw [h0] at hl; simp at hl
  · exact ⟨g, cap, us, rfl, hR, hu, hg, ho, hc, hmx⟩
theorem mvl_same : ∀ (l : List MapD) (us : List Value) (J : Nat) (x : List Int) (hJ : J < l.length), mvl (l.set J { l[J] with l := x }) us = mvl l us := by
  intro l
  induction l with
  | nil => intro us J x hJ; simp at hJ
  | cons a l ih =>
    intro us J x hJ
    cases us with
    | nil => cases J <;> rfl
    | cons u us =>
      cases J with
      | zero => rfl
      | succ J =>
        have := ih us J x (by simpa using hJ)
        rw [List.set_cons_succ, mvl_cons, mvl_cons]
        simp only [List.getElem_cons_succ]
        rw [this]
/-- The cell of one Map's slice. -/
theorem CpC.cell {w : World} {base g cap : Nat} {l : List MapD} {us : List Value} (h : CpC w base g cap l us) {J : Nat} (hJ : J < l.length) : ∃ A2 c2, us[J]'(by rw [h.2.1]; exact hJ) = .slice A2 (l[J]).l.length c2 ∧ w.cell? ⟨g, J * 3 + 2, none⟩ = some (.slice A2 (l[J]).l.length c2) ∧ ∀ o, w.frozen? ⟨g, o, none⟩ = false := by
  have hUj : J < us.length := by rw [h.2.1]; exact hJ
  have hr := h.2.2.2.1.reads.2 J hUj (by simpa using hJ)
  rw [List.getElem_map] at hr
  obtain ⟨A2, c2, e2, _, _⟩ := Reads.lenN (show Reads w w.heap.size us[J] (.row _ _ _ _) from hr)
  obtain ⟨_, _, m2⟩ := Rw.getM h.1 h.2.1 rfl hJ
  rw [e2] at m2
  exact ⟨A2, c2, e2, m2, fun o => Rw.frozen h.1 o⟩
/-- A word stored in one block of one Map. -/
theorem CpC.setB {w : World} {base g cap : Nat} {l : List MapD} {us : List Value} (h : CpC w base g cap l us) {J b : Nat} (hJ : J < l.length) (hb : b < (l[J]).l.length) (n : Int) :
    ∃ g2 c2, w.cell? ⟨g, J * 3 + 2, none⟩ = some (.slice (some ⟨g2, 0, none⟩) (l[J]).l.length c2) ∧ base ≤ g2 ∧ (∃ y, w.cell? ⟨g2, b, none⟩ = some (.int .i64 y)) ∧ w.frozen? ⟨g2, b, none⟩ = false ∧ Owns (w.setCell ⟨g2, b, none⟩ (.int .i64 n)) (fun b => base ≤ b) (.slice (some ⟨g, 0, none⟩) l.length cap) (mapsT 53 (l.set J { l[J] with l := (l[J]).l.set b n })) := by
  have hUj : J < us.length := by rw [h.2.1]; exact hJ
  have hMj : J < (l.map mapI).length := by simpa using hJ
  obtain ⟨T, hT, hTS, hup⟩ := h.2.2.2.1.pick hUj hMj
  rw [List.getElem_map] at hT
  obtain ⟨_, _, m2⟩ := Rw.getM h.1 h.2.1 rfl hJ
  rcases Owns.rw' (show Owns w T us[J] (.row 3 1 (l[J]).l.length ((l[J]).l.map fun n => .lit (iV n))) from hT) with ⟨_, h0, _⟩ | ⟨g2, c2, xs, e2, hS2, hR2, hn2, hc2, hl2, hx2, ho2⟩
  · omega
  · have hxs := lits_eq ho2.reads
    subst hxs
    rw [e2] at m2
    have hset := hR2.set b (iV n)
    rw [← List.map_set] at hset
    have hown : Owns (w.setCell ⟨g2, b, none⟩ (.int .i64 n)) T us[J] (intsD ((l[J]).l.set b n)) := by
      rw [e2]
      have hh := Rw.owns (S := T) (cs := ((l[J]).l.set b n).map fun n => .lit (iV n)) (n := (l[J]).l.length) hset hS2 (ints_litL _ _ _) hn2 hc2 (by simp)
      unfold intsD
      rw [List.length_set]
      exact hh
    have hO : Only T w (w.setCell ⟨g2, b, none⟩ (.int .i64 n)) := (Only.refl _ _).setCell hS2 _
    have hL := hup _ _ hown hO
    refine ⟨g2, c2, m2, (hTS g2 hS2).1, ⟨_, (hR2.cell (i := b) (by simpa using hb)).trans (by rw [List.getElem_map]; rfl)⟩, Rw.frozen hR2 b, ?_⟩
    have hlen : (l.set J { l[J] with l := (l[J]).l.set b n }).length = l.length := List.length_set ..
    have hrr : Rw (w.setCell ⟨g2, b, none⟩ (.int .i64 n)) g 53 3 (l.set J { l[J] with l := (l[J]).l.set b n }).length cap (mvl (l.set J { l[J] with l := (l[J]).l.set b n }) us) := by
      rw [hlen, mvl_same l us J _ hJ]
      exact h.1.keep (Below.heap_setCell _ _ _ _ (by have := (hTS g2 hS2).2; simpa using fun e => this e.symm))
    have hmm : OwnsL (w.setCell ⟨g2, b, none⟩ (.int .i64 n)) (fun b => base ≤ b ∧ b ≠ g) us ((l.set J { l[J] with l := (l[J]).l.set b n }).map mapI) := by
      rw [List.map_set]
      exact hL
    have hf := Rw.maps (S := fun b => base ≤ b) hrr h.2.2.1 (by rw [hlen]; exact h.2.2.2.2.1) h.2.2.2.2.2 hmm
    rw [hlen] at hf
    exact hf
theorem OwnsL.put {w : World} {S T U : Nat → Prop} {us : List Value} {u : Value} {cs : List Dat} {c : Dat} (k : Nat) (h : OwnsL w S us cs) (hu : Owns w T u c) (hS : ∀ b, S b → U b) (hT : ∀ b, T b → U b) (hd : ∀ b, S b → ¬ T b) : OwnsL w U (us.set k u) (cs.set k c) := by
  induction cs generalizing us S U k with
  | nil =>
    have h1 : us = [] := List.length_eq_zero_iff.1 h.1
    subst h1
    exact h.mono hS
  | cons a cs ih =>
    obtain ⟨v, us', P, Q, rfl, h0, h1, hP, hQ, hpq⟩ := OwnsL.uncons h
    cases k with
    | zero => exact OwnsL.cons hu h1 hT (fun b hb => hS b (hQ b hb)) (fun b hb hb' => hd b (hQ b hb') hb)
    | succ k => exact OwnsL.cons h0 (ih (U := fun b => Q b ∨ T b) k h1 (fun b hb => .inl hb) (fun b hb => .inr hb) (fun b hb => hd b (hQ b hb))) (fun b hb => hS b (hP b hb)) (fun b hb => hb.elim (fun h => hS b (hQ b h)) (hT b)) (fun b hb hb' => hb'.elim (hpq b hb) (hd b (hP b hb)))
/-- A new list of blocks stored in one Map. -/
theorem CpC.setL {w0 w : World} {base g cap : Nat} {l : List MapD} {us : List Value} (h : CpC w0 base g cap l us) (hb : Below w0.heap.size w0 w) {J : Nat} (hJ : J < l.length) {u : Value} {x : List Int} (hu : Owns w (fun b => w0.heap.size ≤ b) u (intsD x)) :
    Owns (w.setCell ⟨g, J * 3 + 2, none⟩ u) (fun b => base ≤ b) (.slice (some ⟨g, 0, none⟩) l.length cap) (mapsT 53 (l.set J { l[J] with l := x })) := by
  have hgw := Rw.lt h.1
  have hko : ∀ b, b ≠ g → (w.setCell ⟨g, J * 3 + 2, none⟩ u).heap[b]? = w.heap[b]? := fun b hb => Below.heap_setCell _ _ _ _ (by simpa using hb)
  have ho : OwnsL (w.setCell ⟨g, J * 3 + 2, none⟩ u) (fun b => (base ≤ b ∧ b ≠ g) ∧ b < w0.heap.size) us (l.map mapI) := (h.2.2.2.1.lt.on hb).keep (fun b hb _ => hko b hb.1.2)
  have hu2 : Owns (w.setCell ⟨g, J * 3 + 2, none⟩ u) (fun b => w0.heap.size ≤ b) u (intsD x) := hu.keep (fun b hb _ => hko b (by omega))
  have hL := OwnsL.put (U := fun b => base ≤ b ∧ b ≠ g) J ho hu2 (fun b hb => hb.1) (fun b hb => ⟨by have := h.2.2.1; omega, by omega⟩) (fun b hb hb' => by have := hb.2; omega)
  have hlen : (l.set J { l[J] with l := x }).length = l.length := List.length_set ..
  have hrr : Rw (w.setCell ⟨g, J * 3 + 2, none⟩ u) g 53 3 (l.set J { l[J] with l := x }).length cap (mvl (l.set J { l[J] with l := x }) (us.set J u)) := by
    rw [hlen, mvl_same l _ J _ hJ, mvl_setV h.2.1 hJ]
    exact (h.1.keep (hb.block g hgw)).set _ _
  have hmm : OwnsL (w.setCell ⟨g, J * 3 + 2, none⟩ u) (fun b => base ≤ b ∧ b ≠ g) (us.set J u) ((l.set J { l[J] with l := x }).map mapI) := by
    rw [List.map_set]
    exact hL
  have hf := Rw.maps (S := fun b => base ≤ b) hrr h.2.2.1 (by rw [hlen]; exact h.2.2.2.2.1) h.2.2.2.2.2 hmm
  rw [hlen] at hf
  exact hf
set_option maxHeartbeats 2000000 in
theorem writableMap_any {t : TypeId} (va : Value) (l : List MapD) (w : World) (hv : Reads w w.heap.size va (mapsT t l)) (hs : SmallM l) (s : ByteArray) (hz : s.size ≤ maxLen) : Calls Try.prog 62 #[va, .string s] w fun e w' => e = .returned (.tuple #[.int .i64 (if wcodeM s l = 0 then mapK s l else 0), .int .i64 (wcodeM s l)]) ∧ Below w.heap.size w w' := by
  have HN := Lib.hid (fun (W : World) (b : Below w.heap.size w W) => namedMap_any _ l W (hv.on b) hs s hz)
  have BB := Lib.hid (Below.refl w.heap.size w)
  rcases wcodeM_cases s l with ⟨h1, h2⟩ | ⟨h1, h3, h2⟩ | ⟨h1, h3, h2⟩
  · obtain ⟨A, c, rfl, _, _⟩ := Reads.lenN hv
    rw [if_neg h1] at HN
    rw [h2, if_neg h1]
    generalize codeM s l = C at *
    have d1 : (C == 0) = false := by simp [h1]
    clear hv h2
    go_enter Try.func62, Try.ntmps62
    go_wp2_with fail
    refine (HN.out _ BB.out).mono ?_
    rintro r w1 ⟨rfl, b⟩
    have z1 := b.size
    replace BB := Lib.hid (bstep BB.out b)
    clear b
    go_wp2
    go_ret2
    exact ⟨rfl, BB.out⟩
  · obtain ⟨hK, hJ⟩ := codeM_zero h1
    rw [h1, if_pos rfl, hK] at HN
    obtain ⟨A, c, rfl, _, _⟩ := Reads.lenN hv
    obtain ⟨b, off, rfl, hbb, hc⟩ := hv.maps hJ
    obtain ⟨A1, d1, hf, _, _, r1⟩ := hc _ hJ
    rw [mapD_at hJ] at h3
    rw [h2, if_neg (by omega)]
    have HFX := Lib.hid h3
    have HF := Lib.hid hf
    generalize mapJ s l = J at *
    have i1 : (J : Int) < (l.length : Int) := by omega
    have i2 : (0 : Int) ≤ (J : Int) := by omega
    clear hv hc hf r1 h1 h2 h3
    go_enter Try.func62, Try.ntmps62
    go_wp2_with fail
    refine (HN.out _ BB.out).mono ?_
    rintro r w1 ⟨rfl, b⟩
    have z1 := b.size
    replace BB := Lib.hid (bstep BB.out b)
    clear b
    obtain ⟨c0, c1, c2⟩ := HF.out.on hbb BB.out
    rw [HFX.out] at c1
    go_wp2
    go_ret2
    exact ⟨rfl, BB.out⟩
  · obtain ⟨hK, hJ⟩ := codeM_zero h1
    rw [h1, if_pos rfl, hK] at HN
    obtain ⟨A, c, rfl, _, _⟩ := Reads.lenN hv
    obtain ⟨b, off, rfl, hbb, hc⟩ := hv.maps hJ
    obtain ⟨A1, d1, hf, _, _, r1⟩ := hc _ hJ
    rw [mapD_at hJ] at h3
    rw [h2, if_pos rfl, hK]
    have HFX := Lib.hid h3
    have HF := Lib.hid hf
    generalize mapJ s l = J at *
    have i1 : (J : Int) < (l.length : Int) := by omega
    have i2 : (0 : Int) ≤ (J : Int) := by omega
    clear hv hc hf r1 h1 h2 h3
    go_enter Try.func62, Try.ntmps62
    go_wp2_with fail
    refine (HN.out _ BB.out).mono ?_
    rintro r w1 ⟨rfl, b⟩
    have z1 := b.size
    replace BB := Lib.hid (bstep BB.out b)
    clear b
    obtain ⟨c0, c1, c2⟩ := HF.out.on hbb BB.out
    rw [HFX.out] at c1
    go_wp2
    go_ret2
    exact ⟨rfl, BB.out⟩
set_option maxHeartbeats 4000000 in
theorem implMapWrite_any {t : TypeId} (va : Value) (l : List MapD) (w : World) (hv : Reads w w.heap.size va (mapsT t l)) (hs : SmallM l) (s : ByteArray) (b n : Int) (hz : s.size ≤ maxLen) : Calls Try.prog 31 #[va, .string s, .int .i64 b, .int .i64 n] w (NewMC w (writeM s b n l)) := by
  have HC := Lib.hid (fun (W : World) (b : Below w.heap.size w W) => copyMapsX_any _ l W (hv.on b) hs)
  have HN := Lib.hid (fun (W : World) (b : Below w.heap.size w W) => writableMap_any _ l W (hv.on b) hs s hz)
  have hln : l.length ≤ 1100000 := hs.1
  have BB := Lib.hid (Below.refl w.heap.size w)
  have HR0 : Hid (writeM s b n l = if wcodeM s l = 0 then (if hasMB (mapD l s) b && wordB n then (l.set (mapJ s l) { mapD l s with l := (mapD l s).l.set b.toNat n }, 0) else (l, 4)) else (l, wcodeM s l)) := Lib.hid rfl
  obtain ⟨R, hR⟩ : ∃ R, writeM s b n l = R := ⟨_, rfl⟩
  rw [hR] at HR0 ⊢
  clear hR
  by_cases h0 : wcodeM s l = 0
  · obtain ⟨h1, h3, hK, hJ⟩ := wcodeM_zero h0
    obtain ⟨A, c, rfl, _, _⟩ := Reads.lenN hv
    obtain ⟨p, off, rfl, hbb, hc⟩ := hv.maps hJ
    obtain ⟨A1, d1, hf, _, _, r1⟩ := hc _ hJ
    rw [h0, if_pos rfl, hK] at HN
    rw [if_pos h0, mapD_at hJ] at HR0
    rw [mapD_at hJ] at h3
    have HFX := Lib.hid h3
    have HF := Lib.hid hf
    have R1 := Lib.hid r1
    have hlj := (hs.at hJ).2
    have HX : Hid (∃ x, l[mapJ s l] = x) := Lib.hid ⟨_, rfl⟩
    generalize mapJ s l = J at *
    have i1 : (J : Int) < (l.length : Int) := by omega
    have i2 : (0 : Int) ≤ (J : Int) := by omega
    clear hv hc hf r1 h1 h3 h0 hK HX
    have HW := Lib.hid (fun (W : World) => sameB (show Calls Try.prog 39 #[.int .i64 n] W (fun e w' => e = .returned (.bool (wordB n)) ∧ W = w') from wordOk_any n W))
    by_cases h5 : 0 ≤ b
    · have d5 : decide (b < 0) = false := decide_eq_false (by omega)
      by_cases h6 : b < ((l[J]).l.length : Int)
      · have d6 : decide (b ≥ ((l[J]).l.length : Int)) = false := decide_eq_false (by omega)
        cases h7 : wordB n
        · rw [h7] at HW
          have HR : Hid (R = (l, 4)) := Lib.hid (by rw [HR0.out, h7]; simp)
          clear HR0 h7
          go_enter Try.func31, Try.ntmps31
          go_wp2_with fail
          refine (HC.out _ BB.out).mono ?_
          rintro r w1 ⟨us, rfl, o1, b1⟩
          have CP := Lib.hid (o1.c hln)
          replace BB := Lib.hid (bstep BB.out b1)
          clear o1 b1
          go_wp2_with fail
          refine (HN.out _ BB.out).mono ?_
          rintro r w2 ⟨rfl, b2⟩
          replace BB := Lib.hid (bstep BB.out b2)
          replace CP := Lib.hid (CP.out.on b2)
          have hzz := BB.out.size
          clear b2
          obtain ⟨c0, c1, c2⟩ := HF.out.on hbb BB.out
          rw [HFX.out] at c1
          go_wp2_with fail
          refine (HW.out _).mono ?_
          rintro r w4 ⟨rfl, b4⟩
          replace BB := Lib.hid (bstep BB.out b4)
          replace CP := Lib.hid (CP.out.on b4)
          clear b4
          clear c0 c1 c2
          obtain ⟨c0, c1, c2⟩ := HF.out.on hbb BB.out
          rw [HFX.out] at c1
          go_wp2
          go_ret2
          exact ⟨_, by rw [HR.out] <;> rfl, by rw [HR.out]; exact CP.out.owns.mono (fun b hb => by omega), BB.out⟩
        · rw [h7] at HW
          obtain ⟨q, rfl⟩ : ∃ q : Nat, b = (q : Int) := ⟨b.toNat, by omega⟩
          have hq : q < (l[J]).l.length := by omega
          have HR : Hid (R = (l.set J { l[J] with l := (l[J]).l.set q n }, 0)) := Lib.hid (by rw [HR0.out, h7]; unfold hasMB; rw [decide_eq_true h5, decide_eq_true h6]; simp)
          clear HR0 h7
          go_enter Try.func31, Try.ntmps31
          go_wp2_with fail
          refine (HC.out _ BB.out).mono ?_
          rintro r w1 ⟨us, rfl, o1, b1⟩
          have CP := Lib.hid (o1.c hln)
          replace BB := Lib.hid (bstep BB.out b1)
          clear o1 b1
          go_wp2_with fail
          refine (HN.out _ BB.out).mono ?_
          rintro r w2 ⟨rfl, b2⟩
          replace BB := Lib.hid (bstep BB.out b2)
          replace CP := Lib.hid (CP.out.on b2)
          have hzz := BB.out.size
          clear b2
          obtain ⟨c0, c1, c2⟩ := HF.out.on hbb BB.out
          rw [HFX.out] at c1
          go_wp2_with fail
          refine (HW.out _).mono ?_
          rintro r w4 ⟨rfl, b4⟩
          replace BB := Lib.hid (bstep BB.out b4)
          replace CP := Lib.hid (CP.out.on b4)
          clear b4
          clear c0 c1 c2
          obtain ⟨g2, c2, e1, hg2, ⟨y, e2⟩, e3, hst⟩ := CP.out.setB hJ hq n
          have HST := Lib.hid hst
          have HB := Lib.hid (BB.out.setCell (p := ⟨g2, q, none⟩) (show w.heap.size ≤ g2 by omega) (.int .i64 n))
          clear hst CP
          go_wp2
          go_ret2
          exact ⟨_, by rw [HR.out] <;> rfl, by rw [HR.out]; exact HST.out.mono (fun b hb => by omega), HB.out⟩
      · have d6 : decide (b ≥ ((l[J]).l.length : Int)) = true := decide_eq_true (by omega)
        have HR : Hid (R = (l, 4)) := Lib.hid (by rw [HR0.out]; unfold hasMB; rw [decide_eq_false h6]; simp)
        clear HR0 HW
        go_enter Try.func31, Try.ntmps31
        go_wp2_with fail
        refine (HC.out _ BB.out).mono ?_
        rintro r w1 ⟨us, rfl, o1, b1⟩
        have CP := Lib.hid (o1.c hln)
        replace BB := Lib.hid (bstep BB.out b1)
        clear o1 b1
        go_wp2_with fail
        refine (HN.out _ BB.out).mono ?_
        rintro r w2 ⟨rfl, b2⟩
        replace BB := Lib.hid (bstep BB.out b2)
        replace CP := Lib.hid (CP.out.on b2)
        have hzz := BB.out.size
        clear b2
        obtain ⟨c0, c1, c2⟩ := HF.out.on hbb BB.out
        rw [HFX.out] at c1
        go_wp2
        go_ret2
        exact ⟨_, by rw [HR.out] <;> rfl, by rw [HR.out]; exact CP.out.owns.mono (fun b hb => by omega), BB.out⟩
    · have d5 : decide (b < 0) = true := decide_eq_true (by omega)
      have HR : Hid (R = (l, 4)) := Lib.hid (by rw [HR0.out]; unfold hasMB; rw [decide_eq_false h5]; simp)
      clear HR0 HW
      go_enter Try.func31, Try.ntmps31
      go_wp2_with fail
      refine (HC.out _ BB.out).mono ?_
      rintro r w1 ⟨us, rfl, o1, b1⟩
      have CP := Lib.hid (o1.c hln)
      replace BB := Lib.hid (bstep BB.out b1)
      clear o1 b1
      go_wp2_with fail
      refine (HN.out _ BB.out).mono ?_
      rintro r w2 ⟨rfl, b2⟩
      replace BB := Lib.hid (bstep BB.out b2)
      replace CP := Lib.hid (CP.out.on b2)
      have hzz := BB.out.size
      clear b2
      obtain ⟨c0, c1, c2⟩ := HF.out.on hbb BB.out
      rw [HFX.out] at c1
      go_wp2
      go_ret2
      exact ⟨_, by rw [HR.out] <;> rfl, by rw [HR.out]; exact CP.out.owns.mono (fun b hb => by omega), BB.out⟩
  · rw [if_neg h0] at HN HR0
    generalize wcodeM s l = C at *
    have d1 : (C != 0) = true := by simp [h0]
    have HR := Lib.hid HR0.out
    obtain ⟨A, c, rfl, _, _⟩ := Reads.lenN hv
    clear hv HR0
    go_enter Try.func31, Try.ntmps31
    go_wp2_with fail
    refine (HC.out _ BB.out).mono ?_
    rintro r w1 ⟨us, rfl, o1, b1⟩
    have CP := Lib.hid (o1.c hln)
    replace BB := Lib.hid (bstep BB.out b1)
    clear o1 b1
    go_wp2_with fail
    refine (HN.out _ BB.out).mono ?_
    rintro r w2 ⟨rfl, b2⟩
    replace BB := Lib.hid (bstep BB.out b2)
    replace CP := Lib.hid (CP.out.on b2)
    have hzz := BB.out.size
    clear b2
    go_wp2
    go_ret2
    exact ⟨_, by rw [HR.out] <;> rfl, by rw [HR.out]; exact CP.out.owns.mono (fun b hb => by omega), BB.out⟩
set_option maxHeartbeats 4000000 in
theorem specMapWrite_any {t : TypeId} (va : Value) (l : List MapD) (w : World) (hv : Reads w w.heap.size va (mapsT t l)) (hs : SmallM l) (s : ByteArray) (b n : Int) (hz : s.size ≤ maxLen) : Calls Try.prog 30 #[va, .string s, .int .i64 b, .int .i64 n] w (NewMC w (writeM s b n l)) := by
  have HC := Lib.hid (fun (W : World) (b : Below w.heap.size w W) => l12Copy_any _ l W (hv.on b) hs)
  have HN := Lib.hid (fun (W : World) (b : Below w.heap.size w W) => l12Code_any _ l W (hv.on b) hs s hz)
  have HA := Lib.hid (fun (W : World) (b : Below w.heap.size w W) => specMapAt_any _ l s W (hv.on b) hs)
  have hln : l.length ≤ 1100000 := hs.1
  have BB := Lib.hid (Below.refl w.heap.size w)
  have HR0 : Hid (writeM s b n l = if wcodeM s l = 0 then (if hasMB (mapD l s) b && wordB n then (l.set (mapJ s l) { mapD l s with l := (mapD l s).l.set b.toNat n }, 0) else (l, 4)) else (l, wcodeM s l)) := Lib.hid rfl
  obtain ⟨R, hR⟩ : ∃ R, writeM s b n l = R := ⟨_, rfl⟩
  rw [hR] at HR0 ⊢
  clear hR
  by_cases h0 : wcodeM s l = 0
  · obtain ⟨h1, h3, hK, hJ⟩ := wcodeM_zero h0
    obtain ⟨A, c, rfl, _, _⟩ := Reads.lenN hv
    obtain ⟨p, off, rfl, hbb, hc⟩ := hv.maps hJ
    obtain ⟨A1, d1, hf, _, _, r1⟩ := hc _ hJ
    rw [h1] at HN
    rw [hK] at HA
    rw [if_pos h0, mapD_at hJ] at HR0
    rw [mapD_at hJ] at h3
    have HFX := Lib.hid h3
    have HF := Lib.hid hf
    have R1 := Lib.hid r1
    have hlj := (hs.at hJ).2
    have HX : Hid (∃ x, l[mapJ s l] = x) := Lib.hid ⟨_, rfl⟩
    generalize mapJ s l = J at *
    have i1 : (J : Int) < (l.length : Int) := by omega
    have i2 : (0 : Int) ≤ (J : Int) := by omega
    clear hv hc hf r1 h1 h3 h0 hK HX
    have HW := Lib.hid (fun (W : World) => sameB (show Calls Try.prog 36 #[.int .i64 n] W (fun e w' => e = .returned (.bool (wordB n)) ∧ W = w') from l1Word_any n W))
    have HI := Lib.hid (fun (W : World) => sameB (show Calls Try.prog 35 #[.int .i64 b, .int .i64 0, .int .i64 (((l[J]).l.length : Int) - 1)] W (fun e w' => e = .returned (.bool (decide (0 ≤ b) && decide (b ≤ ((l[J]).l.length : Int) - 1))) ∧ W = w') from l1InC_any b 0 _ W))
    have hw1 : IntKind.i64.wrap (((l[J]).l.length : Int) - 1) = ((l[J]).l.length : Int) - 1 := by rw [IntKind.wrap_i64]; omega
    by_cases h5 : 0 ≤ b
    · by_cases h6 : b < ((l[J]).l.length : Int)
      · rw [decide_eq_true h5, decide_eq_true (show b ≤ ((l[J]).l.length : Int) - 1 by omega)] at HI
        cases h7 : wordB n
        · rw [h7] at HW
          have HR : Hid (R = (l, 4)) := Lib.hid (by rw [HR0.out, h7]; simp)
          clear HR0 h7
          go_enter Try.func30, Try.ntmps30
          go_wp2_with fail
          refine (HC.out _ BB.out).mono ?_
          rintro r w1 ⟨v1, rfl, o1, b1⟩
          obtain ⟨g, cap, us, rfl, hcp⟩ := CpC.of o1 (show 0 < l.length by omega)
          have CP := Lib.hid hcp
          replace BB := Lib.hid (bstep BB.out b1)
          clear o1 b1 hcp
          go_wp2_with fail
          refine (HN.out _ BB.out).mono ?_
          rintro r w2 ⟨rfl, b2⟩
          replace BB := Lib.hid (bstep BB.out b2)
          replace CP := Lib.hid (CP.out.on b2)
          clear b2
          go_wp2_with fail
          refine (HA.out _ BB.out).mono ?_
          rintro r w3 ⟨rfl, b3⟩
          replace BB := Lib.hid (bstep BB.out b3)
          replace CP := Lib.hid (CP.out.on b3)
          have hzz := BB.out.size
          clear b3
          obtain ⟨c0, c1, c2⟩ := HF.out.on hbb BB.out
          rw [HFX.out] at c1
          go_wp2_with fail
          refine (HI.out _).mono ?_
          rintro r w4 ⟨rfl, b4⟩
          replace BB := Lib.hid (bstep BB.out b4)
          replace CP := Lib.hid (CP.out.on b4)
          clear b4
          clear c0 c1 c2
          obtain ⟨c0, c1, c2⟩ := HF.out.on hbb BB.out
          rw [HFX.out] at c1
          go_wp2_with fail
          refine (HW.out _).mono ?_
          rintro r w4 ⟨rfl, b4⟩
          replace BB := Lib.hid (bstep BB.out b4)
          replace CP := Lib.hid (CP.out.on b4)
          clear b4
          clear c0 c1 c2
          obtain ⟨c0, c1, c2⟩ := HF.out.on hbb BB.out
          rw [HFX.out] at c1
          go_wp2
          go_ret2
          exact ⟨_, by rw [HR.out] <;> rfl, by rw [HR.out]; exact CP.out.owns.mono (fun b hb => by omega), BB.out⟩
        · rw [h7] at HW
          obtain ⟨q, rfl⟩ : ∃ q : Nat, b = (q : Int) := ⟨b.toNat, by omega⟩
          have hq : q < (l[J]).l.length := by omega
          have HR : Hid (R = (l.set J { l[J] with l := (l[J]).l.set q n }, 0)) := Lib.hid (by rw [HR0.out, h7]; unfold hasMB; rw [decide_eq_true h5, decide_eq_true h6]; simp)
          clear HR0 h7
          go_enter Try.func30, Try.ntmps30
          go_wp2_with fail
          refine (HC.out _ BB.out).mono ?_
          rintro r w1 ⟨v1, rfl, o1, b1⟩
          obtain ⟨g, cap, us, rfl, hcp⟩ := CpC.of o1 (show 0 < l.length by omega)
          have CP := Lib.hid hcp
          replace BB := Lib.hid (bstep BB.out b1)
          clear o1 b1 hcp
          go_wp2_with fail
          refine (HN.out _ BB.out).mono ?_
          rintro r w2 ⟨rfl, b2⟩
          replace BB := Lib.hid (bstep BB.out b2)
          replace CP := Lib.hid (CP.out.on b2)
          clear b2
          go_wp2_with fail
          refine (HA.out _ BB.out).mono ?_
          rintro r w3 ⟨rfl, b3⟩
          replace BB := Lib.hid (bstep BB.out b3)
          replace CP := Lib.hid (CP.out.on b3)
          have hzz := BB.out.size
          clear b3
          obtain ⟨c0, c1, c2⟩ := HF.out.on hbb BB.out
          rw [HFX.out] at c1
          go_wp2_with fail
          refine (HI.out _).mono ?_
          rintro r w4 ⟨rfl, b4⟩
          replace BB := Lib.hid (bstep BB.out b4)
          replace CP := Lib.hid (CP.out.on b4)
          clear b4
          clear c0 c1 c2
          obtain ⟨c0, c1, c2⟩ := HF.out.on hbb BB.out
          rw [HFX.out] at c1
          go_wp2_with fail
          refine (HW.out _).mono ?_
          rintro r w4 ⟨rfl, b4⟩
          replace BB := Lib.hid (bstep BB.out b4)
          replace CP := Lib.hid (CP.out.on b4)
          clear b4
          clear c0 c1 c2
          obtain ⟨g2, c2, e1, hg2, ⟨y, e2⟩, e3, hst⟩ := CP.out.setB hJ hq n
          have HST := Lib.hid hst
          have HB := Lib.hid (BB.out.setCell (p := ⟨g2, q, none⟩) (show w.heap.size ≤ g2 by omega) (.int .i64 n))
          clear hst CP
          go_wp2
          go_ret2
          exact ⟨_, by rw [HR.out] <;> rfl, by rw [HR.out]; exact HST.out.mono (fun b hb => by omega), HB.out⟩
      · have HR : Hid (R = (l, 4)) := Lib.hid (by rw [HR0.out]; unfold hasMB; rw [decide_eq_false h6]; simp)
        rw [decide_eq_false (show ¬ b ≤ ((l[J]).l.length : Int) - 1 by omega), Bool.and_false] at HI
        clear HR0 HW
        go_enter Try.func30, Try.ntmps30
        go_wp2_with fail
        refine (HC.out _ BB.out).mono ?_
        rintro r w1 ⟨v1, rfl, o1, b1⟩
        obtain ⟨g, cap, us, rfl, hcp⟩ := CpC.of o1 (show 0 < l.length by omega)
        have CP := Lib.hid hcp
        replace BB := Lib.hid (bstep BB.out b1)
        clear o1 b1 hcp
        go_wp2_with fail
        refine (HN.out _ BB.out).mono ?_
        rintro r w2 ⟨rfl, b2⟩
        replace BB := Lib.hid (bstep BB.out b2)
        replace CP := Lib.hid (CP.out.on b2)
        clear b2
        go_wp2_with fail
        refine (HA.out _ BB.out).mono ?_
        rintro r w3 ⟨rfl, b3⟩
        replace BB := Lib.hid (bstep BB.out b3)
        replace CP := Lib.hid (CP.out.on b3)
        have hzz := BB.out.size
        clear b3
        obtain ⟨c0, c1, c2⟩ := HF.out.on hbb BB.out
        rw [HFX.out] at c1
        go_wp2_with fail
        refine (HI.out _).mono ?_
        rintro r w4 ⟨rfl, b4⟩
        replace BB := Lib.hid (bstep BB.out b4)
        replace CP := Lib.hid (CP.out.on b4)
        clear b4
        clear c0 c1 c2
        obtain ⟨c0, c1, c2⟩ := HF.out.on hbb BB.out
        rw [HFX.out] at c1
        go_wp2
        go_ret2
        exact ⟨_, by rw [HR.out] <;> rfl, by rw [HR.out]; exact CP.out.owns.mono (fun b hb => by omega), BB.out⟩
    · have HR : Hid (R = (l, 4)) := Lib.hid (by rw [HR0.out]; unfold hasMB; rw [decide_eq_false h5]; simp)
      rw [decide_eq_false h5, Bool.false_and] at HI
      clear HR0 HW
      go_enter Try.func30, Try.ntmps30
      go_wp2_with fail
      refine (HC.out _ BB.out).mono ?_
      rintro r w1 ⟨v1, rfl, o1, b1⟩
      obtain ⟨g, cap, us, rfl, hcp⟩ := CpC.of o1 (show 0 < l.length by omega)
      have CP := Lib.hid hcp
      replace BB := Lib.hid (bstep BB.out b1)
      clear o1 b1 hcp
      go_wp2_with fail
      refine (HN.out _ BB.out).mono ?_
      rintro r w2 ⟨rfl, b2⟩
      replace BB := Lib.hid (bstep BB.out b2)
      replace CP := Lib.hid (CP.out.on b2)
      clear b2
      go_wp2_with fail
      refine (HA.out _ BB.out).mono ?_
      rintro r w3 ⟨rfl, b3⟩
      replace BB := Lib.hid (bstep BB.out b3)
      replace CP := Lib.hid (CP.out.on b3)
      have hzz := BB.out.size
      clear b3
      obtain ⟨c0, c1, c2⟩ := HF.out.on hbb BB.out
      rw [HFX.out] at c1
      go_wp2_with fail
      refine (HI.out _).mono ?_
      rintro r w4 ⟨rfl, b4⟩
      replace BB := Lib.hid (bstep BB.out b4)
      replace CP := Lib.hid (CP.out.on b4)
      clear b4
      clear c0 c1 c2
      obtain ⟨c0, c1, c2⟩ := HF.out.on hbb BB.out
      rw [HFX.out] at c1
      go_wp2
      go_ret2
      exact ⟨_, by rw [HR.out] <;> rfl, by rw [HR.out]; exact CP.out.owns.mono (fun b hb => by omega), BB.out⟩
  · rw [if_neg h0] at HR0
    rcases wcodeM_cases s l with ⟨h1, h2⟩ | ⟨h1, h3, h2⟩ | ⟨_, _, h2⟩
    · rw [h2] at HR0
      obtain ⟨A, c, rfl, _, _⟩ := Reads.lenN hv
      generalize codeM s l = C at *
      generalize mapK s l = K at *
      have d1 : (C != 0) = true := by simp [h1]
      have HR := Lib.hid HR0.out
      clear hv HR0 h0 h2
      go_enter Try.func30, Try.ntmps30
      go_wp2_with fail
      refine (HC.out _ BB.out).mono ?_
      rintro r w1 ⟨vC, rfl, o, b⟩
      have zC := b.size
      replace BB := Lib.hid (bstep BB.out b)
      have OC := Lib.hid o.ownR
      clear o b
      go_wp2_with fail
      refine (HN.out _ BB.out).mono ?_
      rintro r w2 ⟨rfl, b⟩
      have z2 := b.size
      replace OC := Lib.hid (OC.out.on b)
      replace BB := Lib.hid (bstep BB.out b)
      clear b
      go_wp2_with fail
      refine (HA.out _ BB.out).mono ?_
      rintro r w3 ⟨rfl, b⟩
      have z3 := b.size
      replace OC := Lib.hid (OC.out.on b)
      replace BB := Lib.hid (bstep BB.out b)
      clear b
      go_wp2
      go_ret2
      exact ⟨_, by rw [HR.out] <;> rfl, by rw [HR.out]; exact OC.out.mono (fun b hb => by omega), BB.out⟩
    · rw [h2] at HR0
      obtain ⟨hK, hJ⟩ := codeM_zero h1
      obtain ⟨A, c, rfl, _, _⟩ := Reads.lenN hv
      obtain ⟨p, off, rfl, hbb, hc⟩ := hv.maps hJ
      obtain ⟨A1, d1, hf, _, _, r1⟩ := hc _ hJ
      rw [h1] at HN
      rw [hK] at HA
      rw [mapD_at hJ] at h3
      have HFX := Lib.hid h3
      have HF := Lib.hid hf
      generalize mapJ s l = J at *
      have i1 : (J : Int) < (l.length : Int) := by omega
      have i2 : (0 : Int) ≤ (J : Int) := by omega
      have HR := Lib.hid HR0.out
      clear hv HR0 h0 h2 hc hf r1 h1 h3 hK
      go_enter Try.func30, Try.ntmps30
      go_wp2_with fail
      refine (HC.out _ BB.out).mono ?_
      rintro r w1 ⟨vC, rfl, o, b⟩
      have zC := b.size
      replace BB := Lib.hid (bstep BB.out b)
      have OC := Lib.hid o.ownR
      clear o b
      go_wp2_with fail
      refine (HN.out _ BB.out).mono ?_
      rintro r w2 ⟨rfl, b⟩
      have z2 := b.size
      replace OC := Lib.hid (OC.out.on b)
      replace BB := Lib.hid (bstep BB.out b)
      clear b
      go_wp2_with fail
      refine (HA.out _ BB.out).mono ?_
      rintro r w3 ⟨rfl, b⟩
      have z3 := b.size
      replace OC := Lib.hid (OC.out.on b)
      replace BB := Lib.hid (bstep BB.out b)
      clear b
      obtain ⟨c0, c1, c2⟩ := HF.out.on hbb BB.out
      rw [HFX.out] at c1
      go_wp2
      go_ret2
      exact ⟨_, by rw [HR.out] <;> rfl, by rw [HR.out]; exact OC.out.mono (fun b hb => by omega), BB.out⟩
    · exact absurd h2 h0
end Go.Proofs.Ytcimpcocgmlmoaa
