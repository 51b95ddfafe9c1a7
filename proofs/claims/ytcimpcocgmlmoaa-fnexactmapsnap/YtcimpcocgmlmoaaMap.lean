/- Maps (a name, a mark, a list of ints): how lists of them lie in memory, how they are read and owned; a list that comes in as an argument is opened; laws.toMapS copies one, szMapS counts, eqMapS finds two that read alike equal. Conditions: at most 2^20 of them and of their blocks. -/
import Derived.Test.YtcimpcocgmlmoaaAge
import Derived.Test.YtcimpcocgmlmoaaOpensS
import Derived.Test.YtcimpcocgmlmoaaMarkText
namespace Go.Proofs.Ytcimpcocgmlmoaa
open Go.RowKit Go.ChangeShapes Go.WideShapes Go.Deep
set_option maxRecDepth 100000
set_option linter.unusedSimpArgs false
set_option linter.unusedVariables false

structure MapD where
  (a : ByteArray) (f : Bool) (l : List Int)
  deriving DecidableEq
def mapC (k : MapD) : List Dat := [.lit (.string k.a), .lit (.bool k.f), intsD k.l]
theorem mapC_len (k : MapD) : (mapC k).length = 3 := rfl
def mapI (k : MapD) : Dat := intsD k.l
/-- Maps in a block that was made for elements of type t. -/
def mapsT (t : TypeId) (l : List MapD) : Dat := .row t 3 l.length (l.flatMap mapC)
theorem maps_len (l : List MapD) : (l.flatMap mapC).length = l.length * 3 := flat_len mapC 3 l mapC_len
/-- How many letters and blocks the Maps hold. -/
def sumM : List MapD → Nat
  | [] => 0
  | k :: l => k.a.size + k.l.length + sumM l
theorem sumM_append (a b : List MapD) : sumM (a ++ b) = sumM a + sumM b := by
  induction a with
  | nil => simp [sumM]
  | cons k a ih => simp [sumM, ih]; omega
theorem sumM_mem {l : List MapD} {k : MapD} (h : k ∈ l) : k.a.size + k.l.length ≤ sumM l := by
  induction l with
  | nil => simp at h
  | cons a l ih =>
    rw [sumM]
    rcases List.mem_cons.1 h with rfl | h
    · omega
    · have := ih h; omega
theorem sumM_drop {l : List MapD} {k : Nat} (h : k < l.length) : sumM (l.drop k) = (l[k]).a.size + (l[k]).l.length + sumM (l.drop (k + 1)) := by
  rw [List.drop_eq_getElem_cons h, sumM]
/-- The cells of Maps whose blocks' slices are us. -/
def mvl : List MapD → List Value → List Value
  | k :: l, u :: us => .string k.a :: .bool k.f :: u :: mvl l us
  | _, _ => []
theorem mvl_cons (k : MapD) (l : List MapD) (u : Value) (us : List Value) : mvl (k :: l) (u :: us) = .string k.a :: .bool k.f :: u :: mvl l us := rfl
theorem mvl_nil (us : List Value) : mvl [] us = [] := by cases us <;> rfl
theorem mvl_len {l : List MapD} {us : List Value} (h : us.length = l.length) : (mvl l us).length = l.length * 3 := by
  induction l generalizing us with
  | nil => simp [mvl_nil]
  | cons k l ih =>
    cases us with
    | nil => simp at h
    | cons u us => rw [mvl_cons]; simp only [List.length_cons]; rw [ih (by simpa using h)]; omega
theorem mvl_append {l : List MapD} {us : List Value} (h : us.length = l.length) (m : List MapD) (vs : List Value) : mvl (l ++ m) (us ++ vs) = mvl l us ++ mvl m vs := by
  induction l generalizing us with
  | nil =>
    have : us = [] := List.length_eq_zero_iff.1 h
    subst this
    simp [mvl_nil]
  | cons k l ih =>
    cases us with
    | nil => simp at h
    | cons u us => rw [List.cons_append, List.cons_append, mvl_cons, mvl_cons, ih (by simpa using h)]; rfl
theorem mvl_one (k : MapD) (u : Value) : mvl [k] [u] = [.string k.a, .bool k.f, u] := rfl
theorem mvl_get {l : List MapD} {us : List Value} (h : us.length = l.length) {k : Nat} (hk : k < l.length) :
    (mvl l us)[k * 3]? = some (.string l[k].a) ∧ (mvl l us)[k * 3 + 1]? = some (.bool l[k].f) ∧ (mvl l us)[k * 3 + 2]? = some (us[k]'(by omega)) := by
  induction l generalizing us k with
  | nil => simp at hk
  | cons a l ih =>
    cases us with
    | nil => simp at h
    | cons u us =>
      rw [mvl_cons]
      cases k with
      | zero => exact ⟨rfl, rfl, rfl⟩
      | succ k =>
        have := ih (by simpa using h) (k := k) (by simpa using hk)
        rw [show (k + 1) * 3 = k * 3 + 1 + 1 + 1 by omega]
        exact ⟨this.1, this.2.1, this.2.2⟩
theorem mvl_set {l : List MapD} {us : List Value} (h : us.length = l.length) {k : Nat} (hk : k < l.length) (x : MapD) (u : Value) :
    mvl (l.set k x) (us.set k u) = (((mvl l us).set (k * 3) (.string x.a)).set (k * 3 + 1) (.bool x.f)).set (k * 3 + 2) u := by
  induction l generalizing us k with
  | nil => simp at hk
  | cons a l ih =>
    cases us with
    | nil => simp at h
    | cons v us =>
      cases k with
      | zero => rfl
      | succ k =>
        rw [List.set_cons_succ, List.set_cons_succ, mvl_cons, mvl_cons, ih (by simpa using h) (by simpa using hk), show (k + 1) * 3 = k * 3 + 1 + 1 + 1 by omega]
        rfl
theorem mvl_setV {l : List MapD} {us : List Value} (h : us.length = l.length) {k : Nat} (hk : k < l.length) (u : Value) :
    mvl l (us.set k u) = (mvl l us).set (k * 3 + 2) u := by
  induction l generalizing us k with
  | nil => simp at hk
  | cons a l ih =>
    cases us with
    | nil => simp at h
    | cons v us =>
      cases k with
      | zero => rfl
      | succ k =>
        rw [List.set_cons_succ, mvl_cons, mvl_cons, ih (by simpa using h) (by simpa using hk), show (k + 1) * 3 = k * 3 + 1 + 1 + 1 by omega]
        rfl
theorem mvl_cells {l : List MapD} {us : List Value} (h : ∀ u ∈ us, u.oneCell' = true) : ∀ u ∈ mvl l us, u.oneCell' = true := by
  induction l generalizing us with
  | nil => simp [mvl_nil]
  | cons k l ih =>
    cases us with
    | nil => simp [mvl]
    | cons u us =>
      intro x hx
      rw [mvl_cons] at hx
      rcases List.mem_cons.1 hx with rfl | hx
      · rfl
      · rcases List.mem_cons.1 hx with rfl | hx
        · rfl
        · rcases List.mem_cons.1 hx with rfl | hx
          · exact h _ (by simp)
          · exact ih (fun v hv => h v (by simp [hv])) x hx
theorem ReadsL.uncons {w : World} {B : Nat} {vs : List Value} {c : Dat} {cs : List Dat} (h : ReadsL w B vs (c :: cs)) : ∃ v us, vs = v :: us ∧ Reads w B v c ∧ ReadsL w B us cs := by
  obtain ⟨hl, hr⟩ := h
  cases vs with
  | nil => simp at hl
  | cons v us =>
    exact ⟨v, us, rfl, hr 0 (by simp) (by simp), by simpa using hl, fun i a b => by have := hr (i + 1) (by simpa using a) (by simpa using b); simpa using this⟩
theorem ReadsL.cons {w : World} {B : Nat} {v : Value} {us : List Value} {c : Dat} {cs : List Dat} (h : Reads w B v c) (k : ReadsL w B us cs) : ReadsL w B (v :: us) (c :: cs) := by
  refine ⟨by simp [k.1], fun i a b => ?_⟩
  cases i with
  | zero => exact h
  | succ i => exact k.2 i (by simpa using a) (by simpa using b)
theorem ReadsL.maps {w : World} {B : Nat} {l : List MapD} {xs : List Value} (h : ReadsL w B xs (l.flatMap mapC)) : ∃ us, xs = mvl l us ∧ us.length = l.length ∧ ReadsL w B us (l.map mapI) := by
  induction l generalizing xs with
  | nil =>
    have : xs = [] := List.length_eq_zero_iff.1 h.1
    subst this
    exact ⟨[], rfl, rfl, rfl, fun i a => by simp at a⟩
  | cons k l ih =>
    rw [List.flatMap_cons, mapC] at h
    obtain ⟨x0, y0, rfl, r0, h⟩ := h.uncons
    obtain ⟨x1, y1, rfl, r1, h⟩ := ReadsL.uncons h
    obtain ⟨x2, y2, rfl, r2, h⟩ := ReadsL.uncons h
    obtain ⟨us, rfl, hl, hr⟩ := ih h
    cases r0
    cases r1
    exact ⟨x2 :: us, rfl, by simp [hl], ReadsL.cons r2 hr⟩
theorem OwnsL.uncons {w : World} {S : Nat → Prop} {vs : List Value} {c : Dat} {cs : List Dat} (h : OwnsL w S vs (c :: cs)) :
    ∃ (v : Value) (us : List Value) (P Q : Nat → Prop), vs = v :: us ∧ Owns w P v c ∧ OwnsL w Q us cs ∧ (∀ b, P b → S b) ∧ (∀ b, Q b → S b) ∧ ∀ b, P b → ¬ Q b := by
  obtain ⟨hl, F, ho, hF, hd⟩ := h
  cases vs with
  | nil => simp at hl
  | cons v us =>
    refine ⟨v, us, F 0, fun b => ∃ i, F (i + 1) b, rfl, ho 0 (by simp) (by simp), ⟨by simpa using hl, fun i => F (i + 1), fun i a b => ?_, fun i b hb => ⟨i, hb⟩, fun i j b hij h1 => hd _ _ b (by omega) h1⟩, hF 0, fun b ⟨i, hb⟩ => hF _ b hb, fun b h0 ⟨i, hb⟩ => hd 0 (i + 1) b (by omega) h0 hb⟩
    have := ho (i + 1) (by simpa using a) (by simpa using b)
    simpa using this
theorem OwnsL.cons {w : World} {P Q S : Nat → Prop} {v : Value} {us : List Value} {c : Dat} {cs : List Dat} (h : Owns w P v c) (k : OwnsL w Q us cs) (hP : ∀ b, P b → S b) (hQ : ∀ b, Q b → S b) (hd : ∀ b, P b → ¬ Q b) : OwnsL w S (v :: us) (c :: cs) :=
  (OwnsL.one h).append k hP hQ hd
theorem OwnsL.lits {w : World} {S : Nat → Prop} {u : Value} {us : List Value} {cs : List Dat} (k : OwnsL w S us cs) : OwnsL w S (u :: us) (.lit u :: cs) :=
  OwnsL.cons (P := fun _ => False) (.lit _ u) k (fun _ h => h.elim) (fun _ h => h) (fun _ h => h.elim)
theorem OwnsL.maps {w : World} {S : Nat → Prop} {l : List MapD} {us : List Value} (h : OwnsL w S us (l.map mapI)) : OwnsL w S (mvl l us) (l.flatMap mapC) := by
  induction l generalizing us S with
  | nil =>
    have : us = [] := List.length_eq_zero_iff.1 h.1
    subst this
    exact OwnsL.nil _ _
  | cons k l ih =>
    obtain ⟨v, us, P, Q, rfl, h0, h1, hP, hQ, hd⟩ := OwnsL.uncons h
    rw [mvl_cons, List.flatMap_cons, mapC]
    exact OwnsL.lits (OwnsL.lits (OwnsL.cons h0 (ih h1) hP hQ hd))
theorem OwnsL.unmaps {w : World} {S : Nat → Prop} {l : List MapD} {xs : List Value} (h : OwnsL w S xs (l.flatMap mapC)) : ∃ us, xs = mvl l us ∧ us.length = l.length ∧ OwnsL w S us (l.map mapI) := by
  induction l generalizing xs S with
  | nil =>
    have : xs = [] := List.length_eq_zero_iff.1 h.1
    subst this
    exact ⟨[], rfl, rfl, OwnsL.nil _ _⟩
  | cons k l ih =>
    rw [List.flatMap_cons, mapC] at h
    obtain ⟨x0, y0, P0, Q0, rfl, r0, h, a0, b0, _⟩ := OwnsL.uncons h
    obtain ⟨x1, y1, P1, Q1, rfl, r1, h, a1, b1, _⟩ := OwnsL.uncons h
    obtain ⟨x2, y2, P2, Q2, rfl, r2, h, a2, b2, d2⟩ := OwnsL.uncons h
    obtain ⟨us, rfl, hl, hr⟩ := ih h
    cases r0
    cases r1
    exact ⟨x2 :: us, rfl, by simp [hl], OwnsL.cons r2 hr (fun b hb => b0 b (b1 b (a2 b hb))) (fun b hb => b0 b (b1 b (b2 b hb))) d2⟩
theorem mapI_ones {w : World} {B : Nat} {l : List MapD} {us : List Value} (h : ReadsL w B us (l.map mapI)) : ∀ u ∈ us, u.oneCell' = true := by
  intro u hu
  obtain ⟨i, hi, rfl⟩ := List.getElem_of_mem hu
  have h1 := h.2 i hi (by rw [← h.1]; exact hi)
  rw [List.getElem_map] at h1
  obtain ⟨A, c, e, _⟩ := Reads.lenN (show Reads w B us[i] (.row _ _ _ _) from h1)
  rw [e]; rfl
/-- The cells from place o of block b on hold a Map. -/
abbrev MapF (w : World) (b o : Nat) (k : MapD) (v : Value) : Prop := w.cell? ⟨b, o, none⟩ = some (.string k.a) ∧ w.cell? ⟨b, o + 1, none⟩ = some (.bool k.f) ∧ w.cell? ⟨b, o + 2, none⟩ = some v
theorem MapF.keep {w w' : World} {b o : Nat} {k : MapD} {v : Value} (h : MapF w b o k v) (hb : w'.heap[b]? = w.heap[b]?) : MapF w' b o k v :=
  ⟨(World.cell?_of_block (a := ⟨b, o, none⟩) hb).trans h.1, (World.cell?_of_block (a := ⟨b, o + 1, none⟩) hb).trans h.2.1, (World.cell?_of_block (a := ⟨b, o + 2, none⟩) hb).trans h.2.2⟩
theorem MapF.on {w w' : World} {b o : Nat} {k : MapD} {v : Value} (h : MapF w b o k v) (hlt : b < w.heap.size) (hb : Below w.heap.size w w') : MapF w' b o k v := h.keep (hb.block b hlt)
theorem Reads.maps {w : World} {B : Nat} {A : Option Addr} {t n cap : Nat} {l : List MapD} (h : Reads w B (.slice A n cap) (mapsT t l)) {i : Nat} (hi : i < l.length) :
    ∃ b off, A = some ⟨b, off, none⟩ ∧ b < B ∧ ∀ k (hk : k < l.length), ∃ A2 c2, MapF w b (off + k * 3) l[k] (.slice A2 (l[k]).l.length c2) ∧ (l[k]).l.length ≤ c2 ∧ c2 ≤ maxLen ∧ Reads w B (.slice A2 (l[k]).l.length c2) (intsD (l[k]).l) := by
  obtain ⟨A', cap', hv, hn, hc, hl, _, k⟩ := h.row'
  cases hv
  rcases k with h | ⟨b, off, xs, rfl, hb, hx, hcell, hr⟩
  · have := congrArg List.length h
    rw [maps_len] at this; simp only [List.length_nil] at this; omega
  · refine ⟨b, off, rfl, hb, fun k hk => ?_⟩
    obtain ⟨us, rfl, hu, hr2⟩ := ReadsL.maps ⟨hx, hr⟩
    obtain ⟨g0, g1, g2⟩ := mvl_get hu hk
    have r := hr2.2 k (by omega) (by simpa using hk)
    rw [List.getElem_map] at r
    have hlen := mvl_len hu
    have get : ∀ j v, (mvl l us)[k * 3 + j]? = some v → j < 3 → w.cell? ⟨b, off + k * 3 + j, none⟩ = some v := by
      intro j v hv hj
      have hlt : k * 3 + j < (mvl l us).length := by rw [hlen]; exact flat_lt hk hj
      have := hcell (k * 3 + j) hlt
      rw [List.getElem?_eq_getElem hlt] at hv
      rw [Nat.add_assoc, this, ← hv]
    obtain ⟨A2, c2, e2, h3, h4⟩ := Reads.lenN (show Reads w B (us[k]'(by omega)) (.row _ _ _ _) from r)
    rw [e2] at r g2
    exact ⟨A2, c2, ⟨get 0 _ g0 (by omega), get 1 _ g1 (by omega), get 2 _ g2 (by omega)⟩, h3, h4, r⟩
theorem Reads.atMaps {w : World} {B : Nat} {A : Option Addr} {t n cap : Nat} {l : List MapD} (h : Reads w B (.slice A n cap) (mapsT t l)) : ∃ us, us.length = l.length ∧ At w A (mvl l us) ∧ ReadsL w B us (l.map mapI) := by
  obtain ⟨A', cap', hv, hn, hc, hl, _, k⟩ := h.row'
  cases hv
  rcases k with h | ⟨b, off, xs, rfl, hb, hx, hcell, hr⟩
  · have := congrArg List.length h
    rw [maps_len] at this
    have : l = [] := List.length_eq_zero_iff.1 (by simp only [List.length_nil] at this; omega)
    subst this
    exact ⟨[], rfl, .inl rfl, rfl, fun i a => by simp at a⟩
  · obtain ⟨us, rfl, hu, hr2⟩ := ReadsL.maps ⟨hx, hr⟩
    exact ⟨us, hu, .inr ⟨b, off, rfl, hcell⟩, hr2⟩
/-- Owned Maps, taken apart: the row's block and the blocks of their lists. -/
theorem Owns.maps {w : World} {S : Nat → Prop} {t : TypeId} {v : Value} {l : List MapD} (h : Owns w S v (mapsT t l)) :
    (v = .slice none 0 0 ∧ l = []) ∨ ∃ g cap us, v = .slice (some ⟨g, 0, none⟩) l.length cap ∧ S g ∧ Rw w g t 3 l.length cap (mvl l us) ∧ l.length ≤ cap ∧ cap ≤ maxLen ∧ us.length = l.length ∧ OwnsL w (fun b => S b ∧ b ≠ g) us (l.map mapI) := by
  rcases h.rw' with ⟨rfl, h, _⟩ | ⟨g, cap, xs, rfl, hS, hR, hn, hc, hl, hx, ho⟩
  · exact .inl ⟨rfl, List.length_eq_zero_iff.1 h⟩
  · obtain ⟨us, rfl, hu, ho2⟩ := ho.unmaps
    exact .inr ⟨g, cap, us, rfl, hS, hR, hn, hc, hu, ho2⟩
theorem Rw.maps {w : World} {S : Nat → Prop} {t : TypeId} {g cap : Nat} {l : List MapD} {us : List Value} (h : Rw w g t 3 l.length cap (mvl l us)) (hS : S g) (hn : l.length ≤ cap) (hc : cap ≤ maxLen) (ho : OwnsL w (fun b => S b ∧ b ≠ g) us (l.map mapI)) : Owns w S (.slice (some ⟨g, 0, none⟩) l.length cap) (mapsT t l) :=
  Rw.owns h hS ho.maps hn hc (maps_len l)
/-- A call leaves Maps in memory of its own. -/
def NewM (w : World) (l : List MapD) (e : Ending) (w' : World) : Prop := ∃ v, e = .returned v ∧ Owns w' (fun b => w.heap.size ≤ b) v (mapsT 53 l) ∧ Below w.heap.size w w'
theorem map_info : (Try.prog.info? 53).map (fun i => (i.zero, i.size, i.bytes)) = some (some (.agg #[.string ⟨#[]⟩, .bool false, .slice none 0 0]), 3, 48) := by kernel_rfl
theorem run_makeMaps (n : Nat) (hn : n ≤ 2097152) (w : World) :
    (Instr.makeSlice 32 (.int .i64 (n : Int)) (.int .i64 (n : Int))).run Try.prog w = .ok (.slice (some ⟨w.heap.size, 0, none⟩) n n) (w.alloc (.cells (madeCells #[.string ⟨#[]⟩, .bool false, .slice none 0 0] (n * 3)) 53)) := by
  obtain ⟨i, hi, h0, h1, h2⟩ := info_parts map_info
  have hr := run_make (P := Try.prog) w 32 53 i (.agg #[.string ⟨#[]⟩, .bool false, .slice none 0 0]) Try.underlying32 hi h0 .i64 .i64 n n (by omega) (by omega) (by rw [h2]; omega) (by omega)
  simp only [Int.toNat_natCast, h1] at hr
  exact hr
theorem map_opens : Opens Try.prog 52 (fun ds => ∃ k : {k : MapD // k.a.size ≤ maxLen}, ds = mapC k.1) := by
  have h := Opens.struct (P := Try.prog) Try.underlying52 (by kernel_rfl) [(fun ds => ∃ n : ByteArray, ds = [Dat.lit (.string n)] ∧ n.size ≤ maxLen), (fun ds => ∃ n : Bool, ds = [Dat.lit (.bool n)]), (fun ds => ∃ l : List Int, ds = [intsD l])] rfl (fun i hi => by
    match i, hi with
    | 0, _ => exact Opens.str Try.underlying9
    | 1, _ => exact Opens.bool Try.underlying4
    | 2, _ => exact ints_opens)
  refine h.weaken (fun ds ⟨dss, hd, hC, hds⟩ => ?_)
  match dss, hd with
  | [d0, d1, d2], _ =>
    obtain ⟨n0, h0, z0⟩ := hC 0 (by simp)
    obtain ⟨n1, h1⟩ := hC 1 (by simp)
    obtain ⟨n2, h2⟩ := hC 2 (by simp)
    simp at h0 h1 h2
    subst h0 h1 h2
    exact ⟨⟨⟨n0, n1, n2⟩, z0⟩, by rw [hds]; rfl⟩
theorem maps_opens : Opens Try.prog 29 (fun ds => ∃ l, ds = [mapsT 52 l] ∧ ∀ k ∈ l, k.a.size ≤ maxLen) :=
  (Opens.slice (z := 3) (fun k : {k : MapD // k.a.size ≤ maxLen} => mapC k.1) (fun k => mapC_len k.1) (by omega) Try.underlying29 (by kernel_rfl) map_opens 52).weaken (fun ds ⟨l, hl⟩ => ⟨l.map (·.1), by
    rw [hl]
    unfold mapsT
    rw [List.length_map, List.flatMap_map], fun k hk => by
    obtain ⟨x, _, rfl⟩ := List.mem_map.1 hk
    exact x.2⟩)
theorem open_mapsArg {H : Type} {enc : TypeId × Value → H} {w : World} {r : Reach} {b0 base : Nat} {spare : Nat → Bool} {held : Bool} {v : Value} {x : DataW H} {p : List MemPlace}
    (hv : Value.okWide Try.prog w r b0 29 v) (h : DataW.Trod enc Try.prog w base spare held 29 v x p) : ∃ l : {l : List MapD // ∀ k ∈ l, k.a.size ≤ maxLen}, Reads w w.heap.size v (mapsT 52 l.1) := by
  obtain ⟨A, n, c, rfl⟩ := okWide_slice Try.underlying29 hv
  obtain ⟨fuel, hf⟩ := h
  obtain ⟨ds, ⟨l, rfl, hl⟩, hr⟩ := maps_opens _ _ _ _ _ _ _ _ _ hf
  have r0 := hr.2 0 (by simp [Value.cells]) (by simp)
  simp [Value.cells] at r0
  exact ⟨⟨l, hl⟩, r0⟩
theorem szMap_any (k : MapD) (A : Option Addr) (c : Nat) (m : Int) (w : World) (hn : k.a.size ≤ maxLen) (hl : k.l.length ≤ maxLen) (h1 : 0 ≤ m) (h2 : m ≤ 1048576) :
    Calls Try.prog 41 #[.agg #[.string k.a, .bool k.f, .slice A k.l.length c], .int .i64 m] w fun e w' => Below w.heap.size w w' ∧ ((e = .returned (.int .i64 (-1)) ∧ m < (k.a.size + k.l.length : Nat)) ∨ (e = .returned (.int .i64 (m - (k.a.size + k.l.length : Nat))) ∧ ((k.a.size + k.l.length : Nat) : Int) ≤ m)) := by
  have HL := Lib.hid hl
  have HB := Lib.hid (bal1 w (.cells #[.string k.a, .bool k.f, .slice A k.l.length c] 52))
  unfold maxLen at hn
  clear hl
  by_cases h : m - (k.a.size : Int) < 0
  · go_enter Try.func41, Try.ntmps41
    go_wp2
    go_ret
    exact ⟨HB.out, .inl ⟨rfl, by omega⟩⟩
  · have hq0 : 0 ≤ m - (k.a.size : Int) := by omega
    have hq1 : m - (k.a.size : Int) ≤ 1048576 := by omega
    go_enter Try.func41, Try.ntmps41
    go_wp2_with fail
    refine (szIntS_any A k.l.length c (m - (k.a.size : Int)) _ HL.out hq0 hq1).mono ?_
    rintro e w1 ⟨rfl, (⟨rfl, h3⟩ | ⟨rfl, h3⟩)⟩
    · go_wp2
      go_ret
      exact ⟨HB.out, .inl ⟨rfl, by omega⟩⟩
    · have HQ : Hid (m - (k.a.size : Int) - (k.l.length : Int) = m - (k.a.size + k.l.length : Nat)) := Lib.hid (by omega)
      have d2 : decide (m - (k.a.size : Int) - (k.l.length : Int) < 0) = false := decide_eq_false (by omega)
      go_wp2
      go_ret
      exact ⟨HB.out, .inr ⟨by rw [← HQ.out]; rfl, by omega⟩⟩
theorem szMapS_any (v : Value) (l : List MapD) (m : Int) (w : World) (hv : Reads w w.heap.size v (mapsT 52 l)) (hs : ∀ k ∈ l, k.a.size ≤ maxLen) (h1 : 0 ≤ m) (h2 : m ≤ 1048576) :
    Calls Try.prog 15 #[v, .int .i64 m] w fun e w' => Below w.heap.size w w' ∧ ((e = .returned (.int .i64 (-1)) ∧ m < (l.length + sumM l : Nat)) ∨ (e = .returned (.int .i64 (m - (l.length + sumM l : Nat))) ∧ ((l.length + sumM l : Nat) : Int) ≤ m)) := by
  obtain ⟨A, c, rfl, hn1, hn2⟩ := Reads.lenN hv
  have HN : Hid (l.length ≤ maxLen) := Lib.hid (by omega)
  have hln : l.length ≤ 9223372036854775807 := by have := HN.out; unfold maxLen at this; omega
  have HT := Lib.hid szMap_any
  have HS := Lib.hid hs
  have HV := Lib.hid hv
  clear hv hs hn1 hn2
  by_cases h : m - (l.length : Int) < 0
  · go_enter Try.func15, Try.ntmps15
    go_wp2
    go_ret
    exact ⟨Below.refl _ _, .inl ⟨rfl, by omega⟩⟩
  · go_enter Try.func15, Try.ntmps15
    go_wp2
    go_loopw [1, 5] (fun q i wr => ∃ (k : Nat) (x : Int), k ≤ l.length ∧ i = .int .i64 k ∧ q = .int .i64 x ∧ 0 ≤ x ∧ x ≤ 1048576 ∧ Hid (m - (l.length + sumM l : Nat) = x - (sumM (l.drop k) : Nat)) ∧ Below w.heap.size w wr) (fun _ i _ => l.length - (intOf i).toNat)
    case atStart => exact ⟨0, m - l.length, Nat.zero_le _, rfl, rfl, by omega, by omega, Lib.hid (by simp; omega), Below.refl _ _⟩
    case round =>
      obtain ⟨k, x, hk, rfl, rfl, x0, x1, HX, hb⟩ := hrel
      by_cases hlt : k < l.length
      · obtain ⟨b, off, rfl, hbb, hc⟩ := (HV.out.on hb).maps hlt
        obtain ⟨A2, d2, ⟨c0, c1, c2⟩, hx1, hx2, _⟩ := hc k hlt
        have HD := Lib.hid (sumM_drop hlt)
        have hz := HS.out l[k] (List.getElem_mem hlt)
        have hz2 : (l[k]).l.length ≤ maxLen := by omega
        have i1 : (k : Int) < (l.length : Int) := by omega
        have i2 : (0 : Int) ≤ (k : Int) := by omega
        clear hc
        go_wp2_with fail
        refine (HT.out l[k] A2 d2 x _ hz hz2 x0 x1).mono ?_
        rintro e w1 ⟨b1, ⟨rfl, h5⟩ | ⟨rfl, h5⟩⟩
        · have B1 := Lib.hid (hb.trans (b1.mono hb.size))
          clear hb b1
          go_wp2
          go_ret
          exact ⟨B1.out, .inl ⟨rfl, by have := HX.out; have := HD.out; omega⟩⟩
        · have B1 := Lib.hid (hb.trans (b1.mono hb.size))
          have i3 : ¬ (x - (((l[k]).a.size + (l[k]).l.length : Nat) : Int) < 0) := by omega
          clear hb b1
          go_wp2
          go_roundw
          case rel => exact ⟨k + 1, x - (((l[k]).a.size + (l[k]).l.length : Nat) : Int), by omega, by go_num, rfl, by omega, by omega, Lib.hid (by have := HX.out; have := HD.out; omega), B1.out⟩
          case measure => simp [intOf]; omega
      · have e : k = l.length := by omega
        subst e
        have H2 : Hid (m - (l.length + sumM l : Nat) = x) := Lib.hid (by have := HX.out; simp [sumM] at this; simp; omega)
        go_wp2
        go_ret
        exact ⟨hb, .inr ⟨by rw [H2.out]; rfl, by have := H2.out; omega⟩⟩
end Go.Proofs.Ytcimpcocgmlmoaa
