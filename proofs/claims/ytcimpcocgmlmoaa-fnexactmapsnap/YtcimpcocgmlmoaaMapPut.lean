/- Where a Map goes in order; rows of Maps, one put into them; the contract for impl.placeOfMap. Conditions: at most 1100000 Maps, letters and blocks. -/
import Derived.Test.YtcimpcocgmlmoaaMapSCopy
namespace Go.Proofs.Ytcimpcocgmlmoaa
open Go.RowKit
set_option maxRecDepth 100000
set_option linter.unusedSimpArgs false
set_option linter.unusedVariables false

theorem blessM_irr (x : List UInt8) : Go.Op.bytesLess x x = false := by
  induction x with
  | nil => rfl
  | cons a x ih => simp [Go.Op.bytesLess, ih]
theorem blessM_tri (x y : List UInt8) : Go.Op.bytesLess x y = true ∨ x = y ∨ Go.Op.bytesLess y x = true := by
  induction x generalizing y with
  | nil =>
    cases y with
    | nil => exact .inr (.inl rfl)
    | cons b y => exact .inl rfl
  | cons a x ih =>
    cases y with
    | nil => exact .inr (.inr rfl)
    | cons b y =>
      rcases Nat.lt_trichotomy a.toNat b.toNat with h | h | h
      · left
        have : a < b := UInt8.lt_iff_toNat_lt.2 h
        simp [Go.Op.bytesLess, this]
      · have e : a = b := UInt8.toNat_inj.1 h
        subst e
        rcases ih y with h | h | h
        · left
          simp [Go.Op.bytesLess, h]
        · right; left
          rw [h]
        · right; right
          simp [Go.Op.bytesLess, h]
      · right; right
        have : b < a := UInt8.lt_iff_toNat_lt.2 h
        simp [Go.Op.bytesLess, this]
theorem blessM_trans {x y z : List UInt8} (h : Go.Op.bytesLess x y = true) (k : Go.Op.bytesLess y z = true) : Go.Op.bytesLess x z = true := by
  induction x generalizing y z with
  | nil =>
    cases y with
    | nil => exact k
    | cons b y =>
      cases z with
      | nil => simp [Go.Op.bytesLess] at k
      | cons c z => rfl
  | cons a x ih =>
    cases y with
    | nil => simp [Go.Op.bytesLess] at h
    | cons b y =>
      cases z with
      | nil => simp [Go.Op.bytesLess] at k
      | cons c z =>
        simp only [Go.Op.bytesLess, Bool.or_eq_true, decide_eq_true_eq, Bool.and_eq_true, beq_iff_eq] at h k ⊢
        rcases h with h | ⟨h1, h2⟩
        · rcases k with k | ⟨k1, k2⟩
          · exact .inl (UInt8.lt_trans h k)
          · subst k1
            exact .inl h
        · subst h1
          rcases k with k | ⟨k1, k2⟩
          · exact .inl k
          · exact .inr ⟨k1, ih h2 k2⟩
/-- The place of a Map of the name s among the first k: before the run of greater names at their end. -/
def bubM (l : List MapD) : Nat → ByteArray → Nat
  | 0, _ => 0
  | k + 1, s => match l[k]? with | none => k + 1 | some x => if Go.Op.bytesLess s.toList x.a.toList then bubM l k s else k + 1
def insM (l : List MapD) (k : Nat) (m : MapD) : List MapD := l.take k ++ m :: l.drop k
theorem bubM_stop {l : List MapD} {k : Nat} {s : ByteArray} (h : k < l.length) (hs : Go.Op.bytesLess s.toList l[k].a.toList = false) : bubM l (k + 1) s = k + 1 := by
  rw [bubM, List.getElem?_eq_getElem h]
  simp [hs]
theorem bubM_step {l : List MapD} {k : Nat} {s : ByteArray} (h : k < l.length) (hs : Go.Op.bytesLess s.toList l[k].a.toList = true) : bubM l (k + 1) s = bubM l k s := by
  rw [bubM, List.getElem?_eq_getElem h]
  simp [hs]
theorem bubM_le (l : List MapD) (s : ByteArray) : ∀ k, k ≤ l.length → bubM l k s ≤ k := by
  intro k
  induction k with
  | zero => intro _; exact Nat.le_refl _
  | succ k ih =>
    intro h
    cases hs : Go.Op.bytesLess s.toList (l[k]'(by omega)).a.toList
    · rw [bubM_stop (by omega) hs]; exact Nat.le_refl _
    · rw [bubM_step (by omega) hs]; have := ih (by omega); omega
theorem insM_len (l : List MapD) (k : Nat) (m : MapD) (h : k ≤ l.length) : (insM l k m).length = l.length + 1 := by
  unfold insM
  simp
  omega
theorem insM_sum (l : List MapD) (k : Nat) (m : MapD) : sumM (insM l k m) = sumM l + (m.a.size + m.l.length) := by
  have h := sumM_append (l.take k) (l.drop k)
  rw [List.take_append_drop] at h
  unfold insM
  rw [sumM_append, sumM]
  omega
section
variable {α : Type}
theorem put_shift {l : List α} {k : Nat} (h : k < l.length) (x : α) : ((l.take (k + 1) ++ x :: l.drop (k + 1)).set (k + 1) l[k]) = l.take k ++ l[k] :: l.drop k := by
  rw [List.set_append_right _ _ (by simp; omega)]
  have h1 : k + 1 - (l.take (k + 1)).length = 0 := by simp; omega
  rw [h1, List.set_cons_zero, ← List.drop_eq_getElem_cons h, List.take_succ_eq_append_getElem h, List.append_assoc]
  rfl
theorem put_last {l : List α} {k : Nat} (h : k ≤ l.length) (x v : α) : (l.take k ++ x :: l.drop k).set k v = l.take k ++ v :: l.drop k := by
  rw [List.set_append_right _ _ (by simp; omega)]
  have h1 : k - (l.take k).length = 0 := by simp; omega
  rw [h1, List.set_cons_zero]
theorem put_get {l : List α} {k j : Nat} (h : j < k) (hk : k ≤ l.length) (x : α) : (l.take k ++ x :: l.drop k)[j]'(by simp; omega) = l[j]'(by omega) := by
  rw [List.getElem_append_left (by simp; omega), List.getElem_take]
theorem put_len {l : List α} {k : Nat} (hk : k ≤ l.length) (x : α) : (l.take k ++ x :: l.drop k).length = l.length + 1 := by
  simp
  omega
theorem put_end (l : List α) (x : α) : l.take l.length ++ x :: l.drop l.length = l ++ [x] := by simp
end
theorem OwnsL.ins {w : World} {S T U : Nat → Prop} {us : List Value} {um : Value} {l : List MapD} {m : MapD} (k : Nat) (h : OwnsL w S us (l.map mapI)) (hu : Owns w T um (intsD m.l)) (hk : k ≤ l.length) (hS : ∀ b, S b → U b) (hT : ∀ b, T b → U b) (hd : ∀ b, S b → ¬ T b) : OwnsL w U (us.take k ++ um :: us.drop k) ((insM l k m).map mapI) := by
  induction l generalizing us S U k with
  | nil =>
    have h0 : k = 0 := by simpa using hk
    subst h0
    have h1 : us = [] := List.length_eq_zero_iff.1 h.1
    subst h1
    exact (OwnsL.one (show Owns w T um (mapI m) from hu)).mono hT
  | cons a l ih =>
    cases k with
    | zero => exact OwnsL.cons (show Owns w T um (mapI m) from hu) h hT hS (fun b h1 h2 => hd b h2 h1)
    | succ k =>
      obtain ⟨v, us', P, Q, rfl, h0, h1, hP, hQ, hpq⟩ := OwnsL.uncons h
      have h2 := ih (U := fun b => Q b ∨ T b) k h1 (by simpa using hk) (fun b hb => .inl hb) (fun b hb => .inr hb) (fun b hb => hd b (hQ b hb))
      exact OwnsL.cons h0 h2 (fun b hb => hS b (hP b hb)) (fun b hb => hb.elim (fun h => hS b (hQ b h)) (hT b)) (fun b hb hb' => hb'.elim (hpq b hb) (hd b (hP b hb)))
theorem Rw.getM {w : World} {g n cap : Nat} {t : TypeId} {L : List MapD} {U : List Value} (h : Rw w g t 3 n cap (mvl L U)) (hU : U.length = L.length) (hL : L.length = n) {j : Nat} (hj : j < n) : MapF w g (j * 3) (L[j]'(by omega)) (U[j]'(by omega)) := by
  have hl := mvl_len hU
  obtain ⟨m0, m1, m2⟩ := mvl_get hU (k := j) (by omega)
  have cc : ∀ i v, (mvl L U)[i]? = some v → w.cell? ⟨g, i, none⟩ = some v := by
    intro i v hi
    obtain ⟨h1, h2⟩ := List.getElem?_eq_some_iff.1 hi
    rw [Rw.cell h h1, h2]
  exact ⟨cc _ _ m0, cc _ _ m1, cc _ _ m2⟩
theorem Rw.setM {w : World} {g n cap k : Nat} {t : TypeId} {L : List MapD} {U : List Value} (h : Rw w g t 3 n cap (mvl L U)) (hU : U.length = L.length) (hk : k < L.length) (x : MapD) (u : Value) :
    Rw (((w.setCell ⟨g, k * 3, none⟩ (.string x.a)).setCell ⟨g, k * 3 + 1, none⟩ (.bool x.f)).setCell ⟨g, k * 3 + 2, none⟩ u) g t 3 n cap (mvl (L.set k x) (U.set k u)) := by
  rw [mvl_set hU hk x u]
  exact ((Rw.set h (k * 3) (.string x.a)).set (k * 3 + 1) (.bool x.f)).set (k * 3 + 2) u
/-- A row of Maps of the call's own, the slices of their blocks us. -/
def RowU (w : World) (base : Nat) (v : Value) (l : List MapD) (us : List Value) : Prop := w.ownsRow base 53 3 v l.length (mvl l us) ∧ us.length = l.length ∧ OwnsL w (Tof base v) us (l.map mapI)
theorem RowU.of {w : World} {base : Nat} {v : Value} {l : List MapD} (h : Owns w (fun b => base ≤ b) v (mapsT 53 l)) : ∃ us, RowU w base v l us := by
  rcases Owns.maps h with ⟨rfl, rfl⟩ | ⟨g, cap, us, rfl, hS, hR, hn, hc, hu, ho⟩
  · exact ⟨[], row_nil _ _ _ _, rfl, OwnsL.nil _ _⟩
  · exact ⟨us, hR.row hS hn hc (mvl_len hu), hu, ho.mono (fun b hb => ⟨hb.1, fun e => hb.2 (by simp [Value.ownBlock] at e; exact e.symm)⟩)⟩
theorem RowU.on {w w' : World} {base : Nat} {v : Value} {l : List MapD} {us : List Value} (h : RowU w base v l us) (hb : Below w.heap.size w w') : RowU w' base v l us := ⟨row_on h.1 hb, h.2.1, h.2.2.on hb⟩
/-- The same with one Map more, whose blocks lie elsewhere. -/
def RowX (w : World) (base : Nat) (v : Value) (l : List MapD) (m : MapD) (us : List Value) (um : Value) : Prop := w.ownsRow base 53 3 v (l.length + 1) (mvl (l ++ [m]) (us ++ [um])) ∧ us.length = l.length ∧ OwnsL w (Tof base v) us (l.map mapI)
theorem RowX.of {w w' : World} {base : Nat} {v v' : Value} {l : List MapD} {us : List Value} (hr : RowU w base v l us) (hbase : base ≤ w.heap.size) {m : MapD} {um : Value} (h2 : w'.ownsRow base 53 3 v' (l.length + 1) (mvl l us ++ [.string m.a, .bool m.f, um])) (h3 : w.grownBy w' v.ownBlock) (h5 : v'.ownBlock = v.ownBlock ∨ v'.ownBlock = some w.heap.size) : RowX w' base v' l m us um := by
  refine ⟨?_, hr.2.1, ?_⟩
  · rw [mvl_append hr.2.1, mvl_one]; exact h2
  · have hh : w.ownsRow base 53 3 v l.length (mvl l us) := hr.1
    have ho := hr.2.2
    have hO : Only (fun b => v.ownBlock = some b) w w' := ⟨h3.os, h3.tape, h3.output, h3.size, fun i hi hn => h3.block i hi (fun e => hn e.symm)⟩
    have k1 : OwnsL w' (fun b => Tof base v b ∧ b < w.heap.size) us (l.map mapI) := ho.lt.far hO (fun b hb _ hb' => hb.1.2 hb')
    refine k1.mono (fun b hb => ⟨hb.1.1, fun hv => ?_⟩)
    rcases h5 with h | h
    · exact hb.1.2 (h ▸ hv)
    · rw [h] at hv; simp at hv; have := hb.2; omega
theorem operAppU {o : Oper} {a : Act} {Kn : Act → World → Prop} {Q : Exit → Act → World → Prop} (w : World) (hgd : o.guard = none) (s x : Operand)
    (hop : o.op = .call { callee := .builtin .append, args := #[s, x], argTypes := #[32, 32] })
    (base : Nat) (v : Value) (l : List MapD) (us : List Value) (hs : a.eval s = v) (hr : RowU w base v l us) (hbase : base ≤ w.heap.size) (A : Option Addr) (c : Nat) (m : MapD) (um : Value) (hx : a.eval x = .slice A 1 c) (hA : At w A [.string m.a, .bool m.f, um])
    (h1 : um.oneCell' = true) (hlen : l.length + 1 ≤ 1073741824)
    (h : ∀ v' w', RowX w' base v' l m us um → Below base w w' → True → True → Kn (a.put o.dst v') w') : Oper.wp Try.prog o a w Kn Q := by
  refine operAppW w hgd s x 32 53 3 48 (.agg #[.string ⟨#[]⟩, .bool false, .slice none 0 0]) hop Try.underlying32 map_info rfl (by omega) (by omega) base l.length v (mvl l us) hs hr.1 A 1 c [.string m.a, .bool m.f, um] hx rfl hA (by
    intro y hy
    simp at hy
    rcases hy with rfl | rfl | rfl
    · rfl
    · rfl
    · exact h1) hlen hbase ?_
  intro v' w' h2 h3 h4 h5
  exact h v' w' (RowX.of hr hbase h2 h3 h5) ((Below.refl _ _).grown h3 hbase (fun k hk => (row_lt hr.1 k hk).2)) trivial trivial
theorem gt_cases {x s : ByteArray} (hs : Go.Op.bytesLess s.toList x.toList = false) : Go.Op.bytesLess x.toList s.toList = true ∨ x.toList = s.toList := by
  rcases blessM_tri x.toList s.toList with h | h | h
  · exact .inl h
  · exact .inr h
  · rw [hs] at h; cases h
theorem gt_facts {x s : ByteArray} (hs : Go.Op.bytesLess s.toList x.toList = true) : Go.Op.bytesLess x.toList s.toList = false ∧ (x.toList == s.toList) = false := by
  constructor
  · cases h : Go.Op.bytesLess x.toList s.toList
    · rfl
    · have := blessM_trans hs h
      rw [blessM_irr] at this
      cases this
  · rw [beq_eq_false_iff_ne]
    intro h
    rw [h, blessM_irr] at hs
    cases hs
theorem gtr_run (x s : ByteArray) (w : World) : (binOp .gtr 9 (.string x) (.string s)).run Try.prog w = .ok (.bool !(Go.Op.bytesLess x.toList s.toList || x.toList == s.toList)) w := by
  simp [binOp, go_sem, Go.Op.stringOp]
set_option maxHeartbeats 2000000 in
theorem placeOfMap_any {t : TypeId} (v : Value) (l : List MapD) (s : ByteArray) (w : World) (hv : Reads w w.heap.size v (mapsT t l)) (hn : SmallM l) :
    Calls Try.prog 70 #[v, .string s] w fun e w' => e = .returned (.int .i64 (bubM l l.length s : Nat)) ∧ Below w.heap.size w w' := by
  obtain ⟨A, c, rfl, _, _⟩ := Reads.lenN hv
  have HV := Lib.hid hv
  have hln : l.length ≤ 1100000 := hn.1
  obtain ⟨R, hR⟩ : ∃ R, bubM l l.length s = R := ⟨_, rfl⟩
  rw [hR]
  have HR := Lib.hid hR
  clear hR hv hn
  go_enter Try.func70, Try.ntmps70
  go_wp2
  go_loop [5] (fun i => ∃ k : Nat, k ≤ l.length ∧ i = .int .i64 k ∧ Hid (R = bubM l k s)) (fun i => (intOf i).toNat)
  case atStart => exact ⟨l.length, Nat.le_refl _, rfl, Lib.hid HR.out.symm⟩
  case round =>
    obtain ⟨k, hk, rfl, HI⟩ := hrel
    by_cases h0 : k = 0
    · subst h0
      have HK : Hid (R = 0) := Lib.hid (by rw [HI.out]; rfl)
      go_wp2
      go_ret
      exact ⟨by rw [HK.out]; rfl, Below.refl _ _⟩
    · obtain ⟨j, rfl⟩ : ∃ j, k = j + 1 := ⟨k - 1, by omega⟩
      have hj : j < l.length := by omega
      obtain ⟨b, off, rfl, hbb, hc⟩ := HV.out.maps hj
      obtain ⟨A1, d1, ⟨y0, y1, y2⟩, _⟩ := hc j hj
      have i1 : (j : Int) < (l.length : Int) := by omega
      have i2 : (0 : Int) ≤ (j : Int) := by omega
      have i3 : ((j + 1 : Nat) : Int) - 1 = (j : Int) := by omega
      have i4 : (0 : Int) < ((j + 1 : Nat) : Int) := by omega
      clear hc y1 y2 h0
      cases hs : Go.Op.bytesLess s.toList l[j].a.toList
      · have HK : Hid (R = j + 1) := Lib.hid (by rw [HI.out, bubM_stop hj hs])
        rcases gt_cases hs with z1 | h3
        · have hg : (binOp .gtr 9 (.string l[j].a) (.string s)).run Try.prog w = .ok (.bool false) w := by rw [gtr_run, z1]; rfl
          clear hs z1
          go_wp2
          go_ret
          exact ⟨by rw [HK.out]; rfl, Below.refl _ _⟩
        · have z1 : Go.Op.bytesLess l[j].a.toList s.toList = false := by rw [h3]; exact blessM_irr _
          have z2 : (l[j].a.toList == s.toList) = true := by rw [h3]; exact beq_self_eq_true _
          have hg : (binOp .gtr 9 (.string l[j].a) (.string s)).run Try.prog w = .ok (.bool false) w := by rw [gtr_run, z1, z2]; rfl
          clear hs h3 z1 z2
          go_wp2
          go_ret
          exact ⟨by rw [HK.out]; rfl, Below.refl _ _⟩
      · have HK : Hid (R = bubM l j s) := Lib.hid (by rw [HI.out, bubM_step hj hs])
        obtain ⟨z1, z2⟩ := gt_facts hs
        have hg : (binOp .gtr 9 (.string l[j].a) (.string s)).run Try.prog w = .ok (.bool true) w := by rw [gtr_run, z1, z2]; rfl
        clear hs z1 z2
        go_wp2
        go_round
        case rel => exact ⟨j, by omega, by go_num, HK⟩
        case measure => simp [intOf]
end Go.Proofs.Ytcimpcocgmlmoaa
