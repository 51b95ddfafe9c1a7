/- Several texts in one: Names, Bytes, Mem, Keys, Opens, KeyLaw, AppV, KSet, KSetLaw, KSetMark, Node, NodeLaw, Gen, Tree, TreeLaw, TreeMark, Cell, OpensS, Vol, CellLaw, VolLaw, Age, AgeLaw. -/
import Derived.Test.YtpfepcjbhchpcaaGreatRows
import Derived.WalkKit
import Derived.Below
import Derived.Deep.QuietTactic
import Derived.BigQuiet
import Derived.Lib.Hide
import Derived.OwnWalk
import Derived.Laws.OwnMore
import Derived.Deep.Draws
import Derived.Deep.RegionHeld3
import Derived.Deep.Slices
import Derived.Deep.Fields
import Derived.ChangeSame
import Derived.ProofKit
import Derived.ShutString
import Derived.ChangeOld
import Derived.Deep.DeepCutAuto
import Derived.Maps.AppendAt
import Derived.StillTailTactics
namespace Go.Proofs.YtpfepcjbhchpcaaGreat
open Go.RowKit
set_option maxRecDepth 100000
set_option linter.unusedSimpArgs false
set_option linter.unusedVariables false

def inB (x lo hi : Int) : Bool := decide (lo ≤ x ∧ x ≤ hi)
theorem inB_t {x lo hi : Int} (h : lo ≤ x) (h2 : x ≤ hi) : inB x lo hi = true := by simp [inB, h, h2]
theorem inB_f1 {x lo hi : Int} (h : x < lo) : inB x lo hi = false := by simp [inB]; omega
theorem inB_f2 {x lo hi : Int} (h : hi < x) : inB x lo hi = false := by simp [inB]; omega
theorem ret_bool {a b : Bool} (h : a = b) : Ending.returned (.bool a) = .returned (.bool b) := by rw [h]
def nb (c : Int) : Bool := inB c 97 122 || inB c 48 57
def allNb (l : List UInt8) : Bool := l.all fun c => nb (c.toNat : Int)
def nameOkB (s : ByteArray) : Bool := inB s.size 1 6 && allNb s.data.toList
theorem take_snoc (s : ByteArray) (k : Nat) (h : k < s.size) : s.data.toList.take (k + 1) = s.data.toList.take k ++ [s[k]] := by
  rw [List.take_succ_eq_append_getElem (by simpa using h)]; rfl
theorem allNb_snoc (s : ByteArray) (k : Nat) (h : k < s.size) : allNb (s.data.toList.take (k + 1)) = (allNb (s.data.toList.take k) && nb (s[k].toNat : Int)) := by
  rw [take_snoc s k h]; simp [allNb]
theorem allNb_bad (s : ByteArray) (k : Nat) (h : k < s.size) (hb : nb (s[k].toNat : Int) = false) : allNb s.data.toList = false := by
  cases e : allNb s.data.toList with
  | false => rfl
  | true =>
    unfold allNb at e
    rw [List.all_eq_true] at e
    have := e s[k] (List.getElem_mem (l := s.data.toList) (by simpa using h))
    rw [hb] at this; exact absurd this (by simp)

theorem in_any (x lo hi : Int) (w : World) :
    Calls Tryz.prog 58 #[.int .i64 x, .int .i64 lo, .int .i64 hi] w fun e w' => e = .returned (.bool (inB x lo hi)) ∧ w = w' := by
  by_cases h1 : lo ≤ x
  · by_cases h2 : x ≤ hi
    · go_enter Tryz.func58, Tryz.ntmps58
      go_wp2
      go_ret
      exact ⟨ret_bool (inB_t (by omega) (by omega)).symm, rfl⟩
    · go_enter Tryz.func58, Tryz.ntmps58
      go_wp2
      go_ret
      exact ⟨ret_bool (inB_f2 (by omega)).symm, rfl⟩
  · go_enter Tryz.func58, Tryz.ntmps58
    go_wp2
    go_ret
    exact ⟨ret_bool (inB_f1 (by omega)).symm, rfl⟩

theorem nb_eq (c : Int) : nb c = (decide (97 ≤ c) && decide (c ≤ 122) || decide (48 ≤ c) && decide (c ≤ 57)) := by simp [nb, inB]
theorem nameByte_any (c : Int) (w : World) :
    Calls Tryz.prog 190 #[.int .u8 c] w fun e w' => e = .returned (.bool (nb c)) ∧ w = w' := by
  rw [nb_eq]
  by_cases h1 : 97 ≤ c <;> by_cases h2 : c ≤ 122 <;> by_cases h3 : 48 ≤ c <;> by_cases h4 : c ≤ 57 <;> try omega
  all_goals
    go_enter Tryz.func190, Tryz.ntmps190
    go_wp2
    go_ret
    exact ⟨ret_bool (by simp [*]), rfl⟩

theorem implNameOk_any (s : ByteArray) (w : World) (hs : s.size ≤ maxLen) :
    Calls Tryz.prog 141 #[.string s] w fun e w' => e = .returned (.bool (nameOkB s)) ∧ w = w' := by
  unfold maxLen at hs
  by_cases h1 : 1 ≤ s.size
  · by_cases h2 : s.size ≤ 6
    · have hin : inB s.size 1 6 = true := inB_t (by omega) (by omega)
      have d1 : decide (s.size < 1) = false := decide_eq_false (by omega)
      have d2 : decide (6 < s.size) = false := decide_eq_false (by omega)
      have HI := Lib.hid hin
      clear hin
      go_enter Tryz.func141, Tryz.ntmps141
      go_wp2
      go_loop [14] (fun i => ∃ k : Nat, k ≤ s.size ∧ i = .int .i64 k ∧ Hid (allNb (s.data.toList.take k) = true)) (fun i => s.size - (intOf i).toNat)
      case atStart => exact ⟨0, Nat.zero_le _, rfl, Lib.hid (by simp [allNb])⟩
      case round =>
        obtain ⟨k, hk, rfl, HA⟩ := hrel
        by_cases hlt : k < s.size
        · cases hb : nb (s[k].toNat : Int)
          · have HB := Lib.hid hb
            clear hb
            go_wp2_with (go_at_call 190; refine (nameByte_any _ _).mono ?_; rintro e w' ⟨rfl, rfl⟩; rw [HB.out])
            go_ret
            exact ⟨ret_bool (by rw [nameOkB, allNb_bad s k hlt HB.out, Bool.and_false]), rfl⟩
          · have HB := Lib.hid hb
            clear hb
            go_wp2_with (go_at_call 190; refine (nameByte_any _ _).mono ?_; rintro e w' ⟨rfl, rfl⟩; rw [HB.out])
            go_round
            case rel => exact ⟨k + 1, by omega, by go_num, Lib.hid (by rw [allNb_snoc s k hlt, HA.out, HB.out]; rfl)⟩
            case measure => simp [intOf]; omega
        · go_wp2
          go_ret
          have e : k = s.size := by omega
          have HA2 := HA.out
          rw [e, List.take_of_length_le (by simp)] at HA2
          exact ⟨ret_bool (by rw [nameOkB, HI.out, HA2]; rfl), rfl⟩
    · have d1 : decide (s.size < 1) = false := decide_eq_false (by omega)
      have d2 : decide (6 < s.size) = true := decide_eq_true (by omega)
      go_enter Tryz.func141, Tryz.ntmps141
      go_wp2
      go_ret
      exact ⟨ret_bool (by rw [nameOkB, inB_f2 (by omega)]; rfl), rfl⟩
  · have d1 : decide (s.size < 1) = true := decide_eq_true (by omega)
    go_enter Tryz.func141, Tryz.ntmps141
    go_wp2
    go_ret
    exact ⟨ret_bool (by rw [nameOkB, inB_f1 (by omega)]; rfl), rfl⟩

theorem byte_le (c : UInt8) : (0 : Int) ≤ (c.toNat : Int) ∧ (c.toNat : Int) ≤ 255 := by
  have := UInt8.toNat_lt c; omega
theorem specNameOk_any (s : ByteArray) (w : World) (hs : s.size ≤ maxLen) :
    Calls Tryz.prog 121 #[.string s] w fun e w' => e = .returned (.bool (nameOkB s)) ∧ w = w' := by
  unfold maxLen at hs
  go_enter Tryz.func121, Tryz.ntmps121
  go_wp2
  go_loop [3] (fun i => ∃ k : Nat, k ≤ s.size ∧ i = .int .i64 k ∧ Hid (allNb (s.data.toList.take k) = true)) (fun i => s.size - (intOf i).toNat)
  case atStart => exact ⟨0, Nat.zero_le _, rfl, Lib.hid (by simp [allNb])⟩
  case round =>
    obtain ⟨k, hk, rfl, HA⟩ := hrel
    by_cases hlt : k < s.size
    · obtain ⟨b0, b1⟩ := byte_le s[k]
      cases hb : inB (s[k].toNat : Int) 97 122
      · have HB := Lib.hid hb
        clear hb
        cases hb2 : inB (s[k].toNat : Int) 48 57
        · have HC := Lib.hid hb2
          clear hb2
          go_wp2_with (go_at_call 58; refine (in_any _ _ _ _).mono ?_; rintro e w' ⟨rfl, rfl⟩; (first | rw [HB.out] | rw [HC.out]))
          go_ret
          exact ⟨ret_bool (by rw [nameOkB, allNb_bad s k hlt (by rw [nb, HB.out, HC.out]; rfl), Bool.and_false]), rfl⟩
        · have HC := Lib.hid hb2
          clear hb2
          go_wp2_with (go_at_call 58; refine (in_any _ _ _ _).mono ?_; rintro e w' ⟨rfl, rfl⟩; (first | rw [HB.out] | rw [HC.out]))
          go_round
          case rel => exact ⟨k + 1, by omega, by go_num, Lib.hid (by rw [allNb_snoc s k hlt, HA.out, nb, HB.out, HC.out]; rfl)⟩
          case measure => simp [intOf]; omega
      · have HB := Lib.hid hb
        clear hb
        go_wp2_with (go_at_call 58; refine (in_any _ _ _ _).mono ?_; rintro e w' ⟨rfl, rfl⟩; rw [HB.out])
        go_round
        case rel => exact ⟨k + 1, by omega, by go_num, Lib.hid (by rw [allNb_snoc s k hlt, HA.out, nb, HB.out]; rfl)⟩
        case measure => simp [intOf]; omega
    · go_wp2_with (go_at_call 58; refine (in_any _ _ _ _).mono ?_; rintro e w' ⟨rfl, rfl⟩)
      go_ret
      have e : k = s.size := by omega
      have HA2 := HA.out
      rw [e, List.take_of_length_le (by simp)] at HA2
      exact ⟨ret_bool (by rw [nameOkB, HA2, Bool.and_true]), rfl⟩

end Go.Proofs.YtpfepcjbhchpcaaGreat
namespace Go.Proofs.YtpfepcjbhchpcaaGreat
open Go.RowKit
set_option maxRecDepth 100000
set_option linter.unusedSimpArgs false
set_option linter.unusedVariables false

theorem ret_boolB {a b : Bool} (h : a = b) : Ending.returned (.bool a) = .returned (.bool b) := by rw [h]
theorem ret_intB {k : IntKind} {a b : Int} (h : a = b) : Ending.returned (.int k a) = .returned (.int k b) := by rw [h]
/-- The cells that hold these bytes. -/
def bv (l : List UInt8) : List Value := l.map fun c => .int .u8 (c.toNat : Int)
theorem bv_length (l : List UInt8) : (bv l).length = l.length := by simp [bv]
theorem bv_at (l : List UInt8) (k : Nat) (h : k < l.length) : (bv l)[k]? = some (.int .u8 (l[k].toNat : Int)) := by simp [bv, h]
theorem bv_append (l m : List UInt8) : bv (l ++ m) = bv l ++ bv m := by simp [bv]

/-- In w, from the address A on, lie the bytes l; they lie in blocks below B. -/
def Rd (w : World) (B : Nat) (A : Option Addr) (l : List UInt8) : Prop :=
  l = [] ∨ ∃ b off, A = some ⟨b, off, none⟩ ∧ b < B ∧ ∀ i (h : i < l.length), w.cell? ⟨b, off + i, none⟩ = some (.int .u8 (l[i].toNat : Int))
theorem Rd.keep {w w' : World} {B : Nat} {A : Option Addr} {l : List UInt8} (h : Rd w B A l) (hk : ∀ k, k < B → w'.heap[k]? = w.heap[k]?) : Rd w' B A l := by
  rcases h with rfl | ⟨b, off, rfl, hb, hc⟩
  · exact .inl rfl
  · exact .inr ⟨b, off, rfl, hb, fun i hi => (World.cell?_of_block (a := ⟨b, off + i, none⟩) (hk b hb)).trans (hc i hi)⟩
theorem Rd.below {w w' : World} {B : Nat} {A : Option Addr} {l : List UInt8} (h : Rd w B A l) (hb : Below B w w') : Rd w' B A l := h.keep hb.block
theorem Rd.mono {w : World} {B B' : Nat} {A : Option Addr} {l : List UInt8} (h : Rd w B A l) (hB : B ≤ B') : Rd w B' A l := by
  rcases h with rfl | ⟨b, off, rfl, hb, hc⟩
  · exact .inl rfl
  · exact .inr ⟨b, off, rfl, by omega, hc⟩
theorem Rd.drewN {w : World} {B : Nat} {A : Option Addr} {l : List UInt8} (h : Rd w B A l) (n : Nat) : Rd (w.drewN n) B A l := h

/-- The slice value v is the call's own: it lies in block g alone, which holds its bytes l from its head on, and can be written. -/
def Own (w : World) (g : Nat) (v : Value) (l : List UInt8) : Prop :=
  ∃ cap cur, v = .slice (some ⟨g, 0, none⟩) l.length cap ∧ w.heap[g]? = some (.cells cur 5 (0, 0)) ∧ l.length ≤ cap ∧ cap ≤ maxLen ∧ cur.size = cap ∧ cur.toList.take l.length = bv l
theorem Own.lt {w : World} {g : Nat} {v : Value} {l : List UInt8} (h : Own w g v l) : g < w.heap.size := by
  obtain ⟨cap, cur, _, hg, _⟩ := h
  exact (Array.getElem?_eq_some_iff.1 hg).1
theorem Own.keep {w w' : World} {g : Nat} {v : Value} {l : List UInt8} (h : Own w g v l) (hk : w'.heap[g]? = w.heap[g]?) : Own w' g v l := by
  obtain ⟨cap, cur, hv, hg, r⟩ := h
  exact ⟨cap, cur, hv, hk.trans hg, r⟩
theorem Own.below {w w' : World} {g B : Nat} {v : Value} {l : List UInt8} (h : Own w g v l) (hb : Below B w w') (hB : g < B) : Own w' g v l := h.keep (hb.block g hB)
theorem Own.row {w : World} {g : Nat} {v : Value} {l : List UInt8} (h : Own w g v l) : w.ownsRow g 5 1 v l.length (bv l) := by
  obtain ⟨cap, cur, rfl, hg, h1, h2, h3, h4⟩ := h
  exact ⟨by simp [bv_length], .inr ⟨g, cap, cur, rfl, Nat.le_refl _, hg, h1, h2, by simpa using h3, by simpa using h4⟩⟩
theorem Own.rd {w : World} {g : Nat} {v : Value} {l : List UInt8} (h : Own w g v l) : ∃ cap, v = .slice (some ⟨g, 0, none⟩) l.length cap ∧ l.length ≤ cap ∧ Rd w (g + 1) (some ⟨g, 0, none⟩) l := by
  obtain ⟨cap, cur, rfl, hg, h1, h2, h3, h4⟩ := h
  refine ⟨cap, rfl, h1, .inr ⟨g, 0, rfl, by omega, fun i hi => ?_⟩⟩
  rw [cell_of_row w g (0 + i) cur 5 (0, 0) hg]
  have h5 : (cur.toList.take l.length)[i]? = some (.int .u8 (l[i].toNat : Int)) := by rw [h4]; exact bv_at l i hi
  rw [List.getElem?_take_of_lt hi] at h5
  simpa using h5
/-- Block g of w is a row of n bytes that can be written, whose first k are those of l. -/
def Row (w : World) (g n : Nat) (l : List UInt8) : Prop :=
  ∃ cur : Array Value, w.heap[g]? = some (.cells cur 5 (0, 0)) ∧ cur.size = n ∧ l.length ≤ n ∧ cur.toList.take l.length = bv l
theorem Row.step {w : World} {g n : Nat} {l : List UInt8} (h : Row w g n l) (hk : l.length < n) (c : UInt8) : Row (w.setCell ⟨g, l.length, none⟩ (.int .u8 (c.toNat : Int))) g n (l ++ [c]) := by
  obtain ⟨cur, hg, hs, hl, ht⟩ := h
  refine ⟨cur.setIfInBounds l.length (.int .u8 (c.toNat : Int)), heap_setCell_same w g l.length cur _ _ hg, by simpa using hs, by simp; omega, ?_⟩
  simp only [Array.toList_setIfInBounds, List.length_append, List.length_singleton]
  rw [List.take_succ_eq_append_getElem (by simp; omega)]
  simp only [List.take_set_of_le (Nat.le_refl _), ht, List.getElem_set_self, bv_append]
  rfl
theorem Row.cell {w : World} {g n : Nat} {l : List UInt8} (h : Row w g n l) {k : Nat} (hk : k < n) : ∃ v, w.cell? ⟨g, k, none⟩ = some v := by
  obtain ⟨cur, hg, hs, hl, ht⟩ := h
  exact ⟨cur[k], by rw [cell_of_row w g k cur _ _ hg]; simp⟩
theorem Row.frozen {w : World} {g n : Nat} {l : List UInt8} (h : Row w g n l) (k : Nat) : w.frozen? ⟨g, k, none⟩ = false := by
  obtain ⟨cur, hg, hs, hl, ht⟩ := h
  exact frozen_of_row w g k cur _ hg
theorem Row.new (w : World) (n : Nat) : Row (w.alloc (.cells (madeCells #[.int .u8 0] n) 5)) w.heap.size n [] :=
  ⟨_, heap_alloc_new w _, size_madeCells _ _, Nat.zero_le _, rfl⟩
theorem Row.own {w : World} {g n : Nat} {l : List UInt8} (h : Row w g n l) (hl : l.length = n) (hn : n ≤ 1099511627776) : Own w g (.slice (some ⟨g, 0, none⟩) n n) l := by
  subst hl
  obtain ⟨cur, hg, hs, _, ht⟩ := h
  exact ⟨_, cur, rfl, hg, Nat.le_refl _, by unfold maxLen; omega, hs, ht⟩
/-- The byte that an int is converted to. -/
def ub (n : Int) : UInt8 := UInt8.ofNat (n % 256).toNat
theorem ub_toNat (n : Int) : ((ub n).toNat : Int) = n % 256 := by
  unfold ub
  have h : (n % 256).toNat < 256 := by omega
  simp [UInt8.toNat_ofNat_of_lt' (show (n % 256).toNat < UInt8.size from h)]; omega
theorem Rd.on {w w' : World} {A : Option Addr} {l : List UInt8} (h : Rd w w.heap.size A l) (hb : Below w.heap.size w w') : Rd w' w'.heap.size A l := (h.below hb).mono hb.size
theorem Own.on {w w' : World} {g : Nat} {v : Value} {l : List UInt8} (h : Own w g v l) (hb : Below w.heap.size w w') : Own w' g v l := h.below hb h.lt
theorem Own.all {w : World} {g : Nat} {n cap : Nat} {l : List UInt8} (h : Own w g (.slice (some ⟨g, 0, none⟩) n cap) l) : Rd w w.heap.size (some ⟨g, 0, none⟩) l := by
  obtain ⟨_, _, _, hr⟩ := h.rd
  exact hr.mono h.lt
theorem Own.drewN {w : World} {g : Nat} {v : Value} {l : List UInt8} (h : Own w g v l) (n : Nat) : Own (w.drewN n) g v l := h
theorem bdrew {B : Nat} {a w : World} (h : Below B a w) (n : Nat) : Below B a (w.drewN n) := ⟨h.os, h.tape, h.output, h.size, h.block⟩
theorem bstep {a w w' : World} (h : Below a.heap.size a w) (k : Below w.heap.size w w') : Below a.heap.size a w' := h.trans (k.mono h.size)
/-- What the frame of a law says of a slice of integers that came in. -/
def CameIn (k : IntKind) (w : World) (a : Option Addr) (len cap : Nat) (zs : List Int) : Prop :=
  (a = none ∧ len = 0 ∧ cap = 0 ∧ zs = []) ∨
  ∃ x, a = some x ∧ len ≤ cap ∧ cap ≤ maxLen ∧ zs.length = cap ∧ (∀ i, i < zs.length → w.cell? (x.add i) = some (.int k (zs.getD i 0))) ∧ ∀ n ∈ zs, (Lit.int k n).wf = true
theorem wf_u8 {n : Int} (h : (Lit.int .u8 n).wf = true) : 0 ≤ n ∧ n ≤ 255 := by
  simp [Lit.wf, IntKind.min, IntKind.max, IntKind.signed, IntKind.bits] at h; omega
theorem CameIn.rd {w : World} {a : Option Addr} {len cap : Nat} {zs : List Int} (h : CameIn .u8 w a len cap zs) : ∃ l : List UInt8, l.length = len ∧ Rd w w.heap.size a l := by
  rcases h with ⟨rfl, rfl, rfl, rfl⟩ | ⟨x, rfl, hl, hm, hz, hc, hwf⟩
  · exact ⟨[], rfl, .inl rfl⟩
  · refine ⟨(zs.take len).map ub, by simp; omega, ?_⟩
    by_cases h0 : len = 0
    · subst h0; exact .inl (by simp)
    · obtain ⟨b, off, spot⟩ := x
      have hs : spot = none := by simpa [Addr.add] using World.cell?_spot (hc 0 (by omega))
      subst hs
      refine .inr ⟨b, off, rfl, World.block_lt_of_cell? w _ (hc 0 (by omega)), fun i hi => ?_⟩
      simp at hi
      have h2 := hc i (by omega)
      rw [Addr.add_lit] at h2
      rw [h2]
      have h3 := wf_u8 (hwf zs[i] (List.getElem_mem _))
      simp only [List.getElem_map, List.getElem_take, ub_toNat, List.getD_eq_getElem?_getD, List.getElem?_eq_getElem (show i < zs.length by omega), Option.getD_some]
      rw [show zs[i] % 256 = zs[i] by omega]
end Go.Proofs.YtpfepcjbhchpcaaGreat
namespace Go.Proofs.YtpfepcjbhchpcaaGreat
open Go.RowKit
set_option maxRecDepth 100000
set_option linter.unusedSimpArgs false
set_option linter.unusedVariables false

/-- What one cell holds: a plain value, or a slice of n elements of type e of z cells each. -/
inductive Dat where
  | lit (u : Value)
  | row (e : TypeId) (z : Nat) (n : Nat) (cs : List Dat)

inductive Reads (w : World) (B : Nat) : Value → Dat → Prop
  | lit (u : Value) : Reads w B u (.lit u)
  | nil (A : Option Addr) (cap : Nat) (e : TypeId) (z : Nat) : cap ≤ maxLen → Reads w B (.slice A 0 cap) (.row e z 0 [])
  | row (b off n cap : Nat) (e : TypeId) (z : Nat) (xs : List Value) (cs : List Dat) : b < B → n ≤ cap → cap ≤ maxLen → cs.length = n * z → xs.length = cs.length →
      (∀ i (h : i < xs.length), w.cell? ⟨b, off + i, none⟩ = some xs[i]) → (∀ i (h : i < xs.length) (h' : i < cs.length), Reads w B xs[i] cs[i]) →
      Reads w B (.slice (some ⟨b, off, none⟩) n cap) (.row e z n cs)

theorem Reads.keep {w w' : World} {B : Nat} {v : Value} {c : Dat} (h : Reads w B v c) (hk : ∀ k, k < B → w'.heap[k]? = w.heap[k]?) : Reads w' B v c := by
  induction h with
  | lit u => exact .lit u
  | nil A cap e z h => exact .nil A cap e z h
  | row b off n cap e z xs cs hb hn hc hl hx hcell _ ih =>
    exact .row b off n cap e z xs cs hb hn hc hl hx (fun i hi => (World.cell?_of_block (a := ⟨b, off + i, none⟩) (hk b hb)).trans (hcell i hi)) ih
theorem Reads.mono {w : World} {B B' : Nat} {v : Value} {c : Dat} (h : Reads w B v c) (hB : B ≤ B') : Reads w B' v c := by
  induction h with
  | lit u => exact .lit u
  | nil A cap e z h => exact .nil A cap e z h
  | row b off n cap e z xs cs hb hn hc hl hx hcell _ ih => exact .row b off n cap e z xs cs (by omega) hn hc hl hx hcell ih
theorem Reads.on {w w' : World} {v : Value} {c : Dat} (h : Reads w w.heap.size v c) (hb : Below w.heap.size w w') : Reads w' w'.heap.size v c := (h.keep hb.block).mono hb.size
theorem Reads.drewN {w : World} {B : Nat} {v : Value} {c : Dat} (h : Reads w B v c) (n : Nat) : Reads (w.drewN n) B v c := h.keep (fun _ _ => rfl)
theorem Reads.row' {w : World} {B : Nat} {v : Value} {e z n : Nat} {cs : List Dat} (h : Reads w B v (.row e z n cs)) :
    ∃ A cap, v = .slice A n cap ∧ n ≤ cap ∧ cap ≤ maxLen ∧ cs.length = n * z ∧ (A = none → n = 0) ∧
      (cs = [] ∨ ∃ (b off : Nat) (xs : List Value), A = some ⟨b, off, none⟩ ∧ b < B ∧ xs.length = cs.length ∧ (∀ i (h : i < xs.length), w.cell? ⟨b, off + i, none⟩ = some xs[i]) ∧ ∀ i (h : i < xs.length) (h' : i < cs.length), Reads w B xs[i] cs[i]) := by
  cases h with
  | nil A cap e z h => exact ⟨A, cap, rfl, Nat.zero_le _, h, by simp, fun _ => rfl, .inl rfl⟩
  | row b off n cap e z xs cs hb hn hc hl hx hcell hr => exact ⟨_, cap, rfl, hn, hc, hl, fun h => by simp at h, .inr ⟨b, off, xs, rfl, hb, hx, hcell, hr⟩⟩
theorem Reads.ofBytes {w : World} {B : Nat} {A : Option Addr} {cap : Nat} {e : TypeId} {z n : Nat} {cs : List Dat} {xs : List Value} (hn : n ≤ cap) (hc : cap ≤ maxLen) (hl : cs.length = n * z) (hz : 0 < z)
    (h : cs = [] ∨ ∃ b off, A = some ⟨b, off, none⟩ ∧ b < B ∧ xs.length = cs.length ∧ (∀ i (h : i < xs.length), w.cell? ⟨b, off + i, none⟩ = some xs[i]) ∧ ∀ i (h : i < xs.length) (h' : i < cs.length), Reads w B xs[i] cs[i]) : Reads w B (.slice A n cap) (.row e z n cs) := by
  rcases h with h0 | ⟨b, off, rfl, hb, hx, hcell, hr⟩
  · subst h0
    have : n = 0 := by
      rcases Nat.mul_eq_zero.1 (show n * z = 0 from hl.symm) with h | h
      · exact h
      · omega
    subst this
    exact .nil A cap e z hc
  · exact .row b off n cap e z xs cs hb hn hc hl hx hcell hr

/-- A list of cells' values reads like a list of data. -/
def ReadsL (w : World) (B : Nat) (vs : List Value) (cs : List Dat) : Prop := vs.length = cs.length ∧ ∀ i (h : i < vs.length) (h' : i < cs.length), Reads w B vs[i] cs[i]
theorem ReadsL.on {w w' : World} {vs : List Value} {cs : List Dat} (h : ReadsL w w.heap.size vs cs) (hb : Below w.heap.size w w') : ReadsL w' w'.heap.size vs cs := ⟨h.1, fun i a b => (h.2 i a b).on hb⟩

inductive Owns (w : World) : (Nat → Prop) → Value → Dat → Prop
  | lit (S : Nat → Prop) (u : Value) : Owns w S u (.lit u)
  | nil (S : Nat → Prop) (e : TypeId) (z : Nat) : Owns w S (.slice none 0 0) (.row e z 0 [])
  | row (S : Nat → Prop) (g n cap : Nat) (e : TypeId) (z : Nat) (cur : Array Value) (xs : List Value) (cs : List Dat) (F : Nat → Nat → Prop) : S g → w.heap[g]? = some (.cells cur e (0, 0)) → n ≤ cap → cap ≤ maxLen → cur.size = cap * z → cs.length = n * z → cur.toList.take (n * z) = xs →
      (∀ i (h : i < xs.length) (h' : i < cs.length), Owns w (F i) xs[i] cs[i]) → (∀ i b, F i b → S b ∧ b ≠ g) → (∀ i j b, i ≠ j → F i b → ¬ F j b) →
      Owns w S (.slice (some ⟨g, 0, none⟩) n cap) (.row e z n cs)
/-- The same of a list of cells: no two of them meet one block. -/
def OwnsL (w : World) (S : Nat → Prop) (vs : List Value) (cs : List Dat) : Prop :=
  vs.length = cs.length ∧ ∃ F : Nat → Nat → Prop, (∀ i (h : i < vs.length) (h' : i < cs.length), Owns w (F i) vs[i] cs[i]) ∧ (∀ i b, F i b → S b) ∧ (∀ i j b, i ≠ j → F i b → ¬ F j b)

theorem Owns.mono {w : World} {S T : Nat → Prop} {v : Value} {c : Dat} (h : Owns w S v c) (hS : ∀ b, S b → T b) : Owns w T v c := by
  cases h with
  | lit S u => exact .lit _ _
  | nil S e z => exact .nil _ e z
  | row S g n cap e z cur xs cs F hg hh hn hc hs hl hx ho hF hd => exact .row T g n cap e z cur xs cs F (hS g hg) hh hn hc hs hl hx ho (fun i b hb => ⟨hS b (hF i b hb).1, (hF i b hb).2⟩) hd
theorem Owns.keep {w w' : World} {S : Nat → Prop} {v : Value} {c : Dat} (h : Owns w S v c) (hk : ∀ b, S b → b < w.heap.size → w'.heap[b]? = w.heap[b]?) : Owns w' S v c := by
  induction h with
  | lit S u => exact .lit _ u
  | nil S e z => exact .nil _ e z
  | row S g n cap e z cur xs cs F hg hh hn hc hs hl hx ho hF hd ih =>
    exact .row S g n cap e z cur xs cs F hg ((hk g hg (Array.getElem?_eq_some_iff.1 hh).1).trans hh) hn hc hs hl hx (fun i a b => ih i a b (fun k hb => hk k (hF i k hb).1)) hF hd
theorem Owns.lt {w : World} {S : Nat → Prop} {v : Value} {c : Dat} (h : Owns w S v c) : Owns w (fun b => S b ∧ b < w.heap.size) v c := by
  induction h with
  | lit S u => exact .lit _ u
  | nil S e z => exact .nil _ e z
  | row S g n cap e z cur xs cs F hg hh hn hc hs hl hx ho hF hd ih =>
    exact .row _ g n cap e z cur xs cs (fun i b => F i b ∧ b < w.heap.size) ⟨hg, (Array.getElem?_eq_some_iff.1 hh).1⟩ hh hn hc hs hl hx ih (fun i b hb => ⟨⟨(hF i b hb.1).1, hb.2⟩, (hF i b hb.1).2⟩) (fun i j b hij h1 h2 => hd i j b hij h1.1 h2.1)
theorem Owns.reads {w : World} {S : Nat → Prop} {v : Value} {c : Dat} (h : Owns w S v c) : Reads w w.heap.size v c := by
  induction h with
  | lit S u => exact .lit u
  | nil S e z => exact .nil _ _ _ _ (Nat.zero_le _)
  | row S g n cap e z cur xs cs F hg hh hn hc hs hl hx ho hF hd ih =>
    have hle : n * z ≤ cur.toList.length := by
      rw [Array.length_toList, hs]; exact Nat.mul_le_mul_right _ hn
    have hxl : xs.length = cs.length := by rw [← hx, hl, List.length_take]; omega
    refine .row g 0 n cap e z xs cs (Array.getElem?_eq_some_iff.1 hh).1 hn hc hl hxl (fun i hi => ?_) ih
    rw [Nat.zero_add, cell_of_row w g i cur e (0, 0) hh]
    subst hx
    simp at hi ⊢
theorem Owns.row' {w : World} {S : Nat → Prop} {v : Value} {e z n : Nat} {cs : List Dat} (h : Owns w S v (.row e z n cs)) :
    (v = .slice none 0 0 ∧ n = 0 ∧ cs = []) ∨ ∃ (g cap : Nat) (cur : Array Value) (xs : List Value), v = .slice (some ⟨g, 0, none⟩) n cap ∧ S g ∧ w.heap[g]? = some (.cells cur e (0, 0)) ∧ n ≤ cap ∧ cap ≤ maxLen ∧ cur.size = cap * z ∧ cs.length = n * z ∧ cur.toList.take (n * z) = xs ∧ OwnsL w (fun b => S b ∧ b ≠ g) xs cs := by
  cases h with
  | nil S e z => exact .inl ⟨rfl, rfl, rfl⟩
  | row S g n cap e z cur xs cs F hg hh hn hc hs hl hx ho hF hd =>
    have hle : n * z ≤ cur.toList.length := by
      rw [Array.length_toList, hs]; exact Nat.mul_le_mul_right _ hn
    have hxl : xs.length = cs.length := by rw [← hx, hl, List.length_take]; omega
    exact .inr ⟨g, cap, cur, xs, rfl, hg, hh, hn, hc, hs, hl, hx, hxl, F, ho, hF, hd⟩
theorem OwnsL.row {w : World} {S : Nat → Prop} {g n cap e z : Nat} {cur : Array Value} {xs : List Value} {cs : List Dat} (hg : S g) (hh : w.heap[g]? = some (.cells cur e (0, 0))) (hn : n ≤ cap) (hc : cap ≤ maxLen) (hs : cur.size = cap * z) (hl : cs.length = n * z) (hx : cur.toList.take (n * z) = xs)
    (h : OwnsL w (fun b => S b ∧ b ≠ g) xs cs) : Owns w S (.slice (some ⟨g, 0, none⟩) n cap) (.row e z n cs) := by
  obtain ⟨_, F, ho, hF, hd⟩ := h
  exact .row S g n cap e z cur xs cs F hg hh hn hc hs hl hx ho hF hd
theorem OwnsL.mono {w : World} {S T : Nat → Prop} {vs : List Value} {cs : List Dat} (h : OwnsL w S vs cs) (hS : ∀ b, S b → T b) : OwnsL w T vs cs := by
  obtain ⟨hl, F, ho, hF, hd⟩ := h
  exact ⟨hl, F, ho, fun i b hb => hS b (hF i b hb), hd⟩
theorem OwnsL.keep {w w' : World} {S : Nat → Prop} {vs : List Value} {cs : List Dat} (h : OwnsL w S vs cs) (hk : ∀ b, S b → b < w.heap.size → w'.heap[b]? = w.heap[b]?) : OwnsL w' S vs cs := by
  obtain ⟨hl, F, ho, hF, hd⟩ := h
  exact ⟨hl, F, fun i a b => (ho i a b).keep (fun k hb => hk k (hF i k hb)), hF, hd⟩
theorem OwnsL.lt {w : World} {S : Nat → Prop} {vs : List Value} {cs : List Dat} (h : OwnsL w S vs cs) : OwnsL w (fun b => S b ∧ b < w.heap.size) vs cs := by
  obtain ⟨hl, F, ho, hF, hd⟩ := h
  exact ⟨hl, fun i b => F i b ∧ b < w.heap.size, fun i a b => (ho i a b).lt, fun i b hb => ⟨hF i b hb.1, hb.2⟩, fun i j b hij h1 h2 => hd i j b hij h1.1 h2.1⟩
theorem OwnsL.reads {w : World} {S : Nat → Prop} {vs : List Value} {cs : List Dat} (h : OwnsL w S vs cs) : ReadsL w w.heap.size vs cs := by
  obtain ⟨hl, F, ho, hF, hd⟩ := h
  exact ⟨hl, fun i a b => (ho i a b).reads⟩
theorem OwnsL.nil (w : World) (S : Nat → Prop) : OwnsL w S [] [] := ⟨rfl, fun _ _ => False, fun i h => by simp at h, fun _ _ h => h.elim, fun _ _ _ _ h => h.elim⟩
theorem OwnsL.append {w : World} {S T U : Nat → Prop} {vs us : List Value} {cs ds : List Dat} (h : OwnsL w S vs cs) (k : OwnsL w T us ds) (hS : ∀ b, S b → U b) (hT : ∀ b, T b → U b) (hd : ∀ b, S b → ¬ T b) : OwnsL w U (vs ++ us) (cs ++ ds) := by
  obtain ⟨hl, F, ho, hF, hdF⟩ := h
  obtain ⟨kl, G, ko, kG, kd⟩ := k
  refine ⟨by simp [hl, kl], fun i b => (i < vs.length ∧ F i b) ∨ (vs.length ≤ i ∧ G (i - vs.length) b), fun i a b => ?_, ?_, ?_⟩
  · by_cases hi : i < vs.length
    · rw [List.getElem_append_left hi, List.getElem_append_left (by omega)]
      exact (ho i hi (by omega)).mono (fun b hb => .inl ⟨hi, hb⟩)
    · rw [List.getElem_append_right (by omega), List.getElem_append_right (by omega)]
      simp only [List.length_append] at a b
      have := ko (i - vs.length) (by omega) (by omega)
      simp only [← hl]
      exact this.mono (fun b hb => .inr ⟨by omega, hb⟩)
  · rintro i b (⟨_, h⟩ | ⟨_, h⟩)
    · exact hS b (hF i b h)
    · exact hT b (kG _ b h)
  · rintro i j b hij (⟨h1, h⟩ | ⟨h1, h⟩) (⟨k1, k⟩ | ⟨k1, k⟩)
    · exact hdF i j b hij h k
    · exact hd b (hF i b h) (kG _ b k)
    · exact hd b (hF j b k) (kG _ b h)
    · exact kd _ _ b (by omega) h k
theorem OwnsL.one {w : World} {S : Nat → Prop} {v : Value} {c : Dat} (h : Owns w S v c) : OwnsL w S [v] [c] := by
  refine ⟨rfl, fun i b => i = 0 ∧ S b, fun i a b => ?_, fun _ _ h => h.2, fun i j b hij h k => by omega⟩
  match i, a with
  | 0, _ => exact h.mono (fun b hb => ⟨rfl, hb⟩)
theorem OwnsL.snoc {w : World} {S T U : Nat → Prop} {vs : List Value} {cs : List Dat} {v : Value} {c : Dat} (h : OwnsL w S vs cs) (k : Owns w T v c) (hS : ∀ b, S b → U b) (hT : ∀ b, T b → U b) (hd : ∀ b, S b → ¬ T b) : OwnsL w U (vs ++ [v]) (cs ++ [c]) := h.append (.one k) hS hT hd
theorem OwnsL.two {w : World} {S T U : Nat → Prop} {v u : Value} {c d : Dat} (h : Owns w S v c) (k : Owns w T u d) (hS : ∀ b, S b → U b) (hT : ∀ b, T b → U b) (hd : ∀ b, S b → ¬ T b) : OwnsL w U [v, u] [c, d] := (OwnsL.one h).append (.one k) hS hT hd

/-- w' is w but for blocks of S and new ones. -/
structure Only (S : Nat → Prop) (w w' : World) : Prop where
  os : w'.os = w.os
  tape : w'.tape = w.tape
  output : w'.output = w.output
  size : w.heap.size ≤ w'.heap.size
  block : ∀ i, i < w.heap.size → ¬ S i → w'.heap[i]? = w.heap[i]?
theorem Only.refl (S : Nat → Prop) (w : World) : Only S w w := ⟨rfl, rfl, rfl, Nat.le_refl _, fun _ _ _ => rfl⟩
theorem Only.trans {S : Nat → Prop} {a b c : World} (h : Only S a b) (k : Only S b c) : Only S a c :=
  ⟨k.os.trans h.os, k.tape.trans h.tape, k.output.trans h.output, Nat.le_trans h.size k.size, fun i hi hne => (k.block i (Nat.lt_of_lt_of_le hi h.size) hne).trans (h.block i hi hne)⟩
theorem Only.mono {S T : Nat → Prop} {w w' : World} (h : Only S w w') (hS : ∀ b, S b → T b) : Only T w w' := ⟨h.os, h.tape, h.output, h.size, fun i hi hn => h.block i hi (fun hs => hn (hS i hs))⟩
theorem Only.of_below {w w' : World} (h : Below w.heap.size w w') (S : Nat → Prop) : Only S w w' := ⟨h.os, h.tape, h.output, h.size, fun i hi _ => h.block i hi⟩
theorem Only.below {S : Nat → Prop} {w w' : World} {B : Nat} (h : Only S w w') (hB : B ≤ w.heap.size) (hS : ∀ b, S b → B ≤ b) : Below B w w' := ⟨h.os, h.tape, h.output, h.size, fun k hk => h.block k (by omega) (fun hs => by have := hS k hs; omega)⟩
theorem Only.of_grown {w w' : World} {g : Nat} (h : w.grownBy w' (some g)) {S : Nat → Prop} (hS : S g) : Only S w w' := ⟨h.os, h.tape, h.output, h.size, fun i hi hn => h.block i hi (fun e => hn (by injection e with e; exact e ▸ hS))⟩
theorem Only.drewN {S : Nat → Prop} {a w : World} (h : Only S a w) (n : Nat) : Only S a (w.drewN n) := ⟨h.os, h.tape, h.output, h.size, h.block⟩
theorem Only.setCell {S : Nat → Prop} {a w : World} {g j : Nat} (h : Only S a w) (hS : S g) (u : Value) : Only S a (w.setCell ⟨g, j, none⟩ u) :=
  ⟨h.os, h.tape, h.output, by simpa [World.setCell] using h.size, fun i hi hn => (Below.heap_setCell w ⟨g, j, none⟩ u i (by rintro rfl; exact hn hS)).trans (h.block i hi hn)⟩
theorem Owns.far {w w' : World} {S T : Nat → Prop} {v : Value} {c : Dat} (h : Owns w S v c) (hg : Only T w w') (hd : ∀ b, S b → b < w.heap.size → ¬ T b) : Owns w' S v c := h.keep (fun b hb hl => hg.block b hl (hd b hb hl))
theorem OwnsL.far {w w' : World} {S T : Nat → Prop} {v : List Value} {c : List Dat} (h : OwnsL w S v c) (hg : Only T w w') (hd : ∀ b, S b → b < w.heap.size → ¬ T b) : OwnsL w' S v c := h.keep (fun b hb hl => hg.block b hl (hd b hb hl))
theorem Owns.on {w w' : World} {S : Nat → Prop} {v : Value} {c : Dat} (h : Owns w S v c) (hb : Below w.heap.size w w') : Owns w' S v c := h.keep (fun b _ hl => hb.block b hl)
theorem OwnsL.on {w w' : World} {S : Nat → Prop} {v : List Value} {c : List Dat} (h : OwnsL w S v c) (hb : Below w.heap.size w w') : OwnsL w' S v c := h.keep (fun b _ hl => hb.block b hl)
theorem Owns.drewN {w : World} {S : Nat → Prop} {v : Value} {c : Dat} (h : Owns w S v c) (n : Nat) : Owns (w.drewN n) S v c := h.keep (fun _ _ _ => rfl)
theorem OwnsL.drewN {w : World} {S : Nat → Prop} {v : List Value} {c : List Dat} (h : OwnsL w S v c) (n : Nat) : OwnsL (w.drewN n) S v c := h.keep (fun _ _ _ => rfl)

/-- One more cell is laid behind those that are owned: it was made by a call, and stored into block g. -/
theorem OwnsL.push {wr w1 : World} {g j : Nat} {xs : List Value} {cs : List Dat} {v u : Value} {c : Dat} (h : OwnsL wr (fun b => g < b) xs cs) (hb : Below wr.heap.size wr w1) (hv : Owns w1 (fun b => wr.heap.size ≤ b) v c) (hg : g < wr.heap.size) :
    OwnsL (w1.setCell ⟨g, j, none⟩ u) (fun b => g < b) (xs ++ [v]) (cs ++ [c]) := by
  have h1 : OwnsL w1 (fun b => g < b ∧ b < wr.heap.size) xs cs := h.lt.on hb
  have h2 := h1.snoc hv (U := fun b => g < b) (fun b hb => hb.1) (fun b hb => by omega) (fun b hb hb' => by omega)
  exact h2.keep (fun b hb _ => Below.heap_setCell _ _ _ _ (by simp; omega))
theorem bal1 (w : World) (o : Obj) : Below w.heap.size w (w.alloc o) := (Below.refl _ _).alloc (Nat.le_refl _) _
theorem bal2 (w : World) (o p : Obj) : Below w.heap.size w ((w.alloc o).alloc p) := (bal1 w o).alloc (by simp) _
theorem bal3 (w : World) (o p q : Obj) : Below w.heap.size w (((w.alloc o).alloc p).alloc q) := (bal2 w o p).alloc (by simp; omega) _
theorem bal4 (w : World) (o p q r : Obj) : Below w.heap.size w ((((w.alloc o).alloc p).alloc q).alloc r) := (bal3 w o p q).alloc (by simp; omega) _
theorem bcell {W w1 : World} (hb : Below W.heap.size W w1) : (∀ b o, b < W.heap.size → w1.cell? ⟨b, o, none⟩ = W.cell? ⟨b, o, none⟩) ∧ (∀ b o, b < W.heap.size → w1.frozen? ⟨b, o, none⟩ = W.frozen? ⟨b, o, none⟩) :=
  ⟨fun b o h => hb.cell (p := ⟨b, o, none⟩) h, fun b o h => hb.frozen (p := ⟨b, o, none⟩) h⟩
theorem box_on {w w' : World} {p : Nat} {o : Obj} (q : w.heap[p]? = some o) (hb : Below w.heap.size w w') : w'.heap[p]? = some o := (hb.block p (Array.getElem?_eq_some_iff.1 q).1).trans q
theorem box_far {w : World} {p g j : Nat} {o : Obj} {u : Value} (q : w.heap[p]? = some o) (hne : p ≠ g) : (w.setCell ⟨g, j, none⟩ u).heap[p]? = some o := (Below.heap_setCell _ _ _ _ (by simpa using hne)).trans q
theorem box_set {w : World} {p i : Nat} {cs : Array Value} {t : TypeId} {u : Value} (h : w.heap[p]? = some (.cells cs t (0, 0))) : (w.setCell ⟨p, i, none⟩ u).heap[p]? = some (.cells (cs.setIfInBounds i u) t (0, 0)) := heap_setCell_same w p i cs t u h
theorem box_only {w w' : World} {S : Nat → Prop} {p : Nat} {o : Obj} (q : w.heap[p]? = some o) (hb : Only S w w') (hS : ¬ S p) : w'.heap[p]? = some o := (hb.block p (Array.getElem?_eq_some_iff.1 q).1 hS).trans q
theorem al1 (w : World) (o : Obj) : (w.alloc o).heap[w.heap.size]? = some o := heap_alloc_new w o
theorem al2 (w : World) (o p : Obj) : ((w.alloc o).alloc p).heap[w.heap.size]? = some o ∧ ((w.alloc o).alloc p).heap[w.heap.size + 1]? = some p :=
  ⟨box_on (al1 w o) (bal1 _ _), by have := al1 (w.alloc o) p; simpa using this⟩
theorem al3 (w : World) (o p q : Obj) : (((w.alloc o).alloc p).alloc q).heap[w.heap.size]? = some o ∧ (((w.alloc o).alloc p).alloc q).heap[w.heap.size + 1]? = some p ∧ (((w.alloc o).alloc p).alloc q).heap[w.heap.size + 1 + 1]? = some q :=
  ⟨box_on (al2 w o p).1 (bal1 _ _), box_on (al2 w o p).2 (bal1 _ _), by have := al1 ((w.alloc o).alloc p) q; simpa using this⟩
theorem box2 {w : World} {p : Nat} {a b : Value} {t : TypeId} (h : w.heap[p]? = some (.cells #[a, b] t (0, 0))) : w.cell? ⟨p, 0, none⟩ = some a ∧ w.cell? ⟨p, 1, none⟩ = some b ∧ ∀ o, w.frozen? ⟨p, o, none⟩ = false :=
  ⟨by rw [cell_of_row w p 0 _ _ _ h]; rfl, by rw [cell_of_row w p 1 _ _ _ h]; rfl, fun o => frozen_of_row w p o _ _ h⟩
theorem box4 {w : World} {p : Nat} {a b c d : Value} {t : TypeId} (h : w.heap[p]? = some (.cells #[a, b, c, d] t (0, 0))) : w.cell? ⟨p, 0, none⟩ = some a ∧ w.cell? ⟨p, 1, none⟩ = some b ∧ w.cell? ⟨p, 2, none⟩ = some c ∧ w.cell? ⟨p, 3, none⟩ = some d ∧ ∀ o, w.frozen? ⟨p, o, none⟩ = false :=
  ⟨by rw [cell_of_row w p 0 _ _ _ h]; rfl, by rw [cell_of_row w p 1 _ _ _ h]; rfl, by rw [cell_of_row w p 2 _ _ _ h]; rfl, by rw [cell_of_row w p 3 _ _ _ h]; rfl, fun o => frozen_of_row w p o _ _ h⟩
/-- The blocks of the call's own box and result. -/
def Mid (a b : Nat) : Nat → Prop := fun k => a ≤ k ∧ k < b
theorem Mid.mk {a b k : Nat} (h : a ≤ k) (h' : k < b) : Mid a b k := ⟨h, h'⟩
theorem Owns.past {w w' : World} {a b : Nat} {v : Value} {c : Dat} (h : Owns w (fun k => b ≤ k) v c) (hO : Only (Mid a b) w w') (hab : a ≤ b) : Owns w' (fun k => a ≤ k) v c := (h.far hO (fun k hk _ hk' => by have := hk'.2; omega)).mono (fun k hk => by omega)
theorem OwnsL.past {w w' : World} {a b : Nat} {v : List Value} {c : List Dat} (h : OwnsL w (fun k => b ≤ k) v c) (hO : Only (Mid a b) w w') (hab : a ≤ b) : OwnsL w' (fun k => a ≤ k) v c := (h.far hO (fun k hk _ hk' => by have := hk'.2; omega)).mono (fun k hk => by omega)
theorem bpast {w w1 w' : World} {b : Nat} (h : Below w.heap.size w w1) (hO : Only (Mid w.heap.size b) w1 w') : Below w.heap.size w w' := h.trans (hO.below h.size (fun _ hk => hk.1))
/-- Block g of w is a row of n cells of type e, whose first ones are xs. -/
def RowV (w : World) (g n : Nat) (e : TypeId) (xs : List Value) : Prop :=
  ∃ cur : Array Value, w.heap[g]? = some (.cells cur e (0, 0)) ∧ cur.size = n ∧ xs.length ≤ n ∧ cur.toList.take xs.length = xs
theorem RowV.step {w : World} {g n : Nat} {e : TypeId} {xs : List Value} (h : RowV w g n e xs) (hk : xs.length < n) (u : Value) : RowV (w.setCell ⟨g, xs.length, none⟩ u) g n e (xs ++ [u]) := by
  obtain ⟨cur, hg, hs, hl, ht⟩ := h
  refine ⟨cur.setIfInBounds xs.length u, heap_setCell_same w g xs.length cur _ _ hg, by simpa using hs, by simp; omega, ?_⟩
  simp only [Array.toList_setIfInBounds, List.length_append, List.length_singleton]
  rw [List.take_succ_eq_append_getElem (by simp; omega)]
  simp only [List.take_set_of_le (Nat.le_refl _), ht, List.getElem_set_self]
theorem RowV.keep {w w' : World} {g n : Nat} {e : TypeId} {xs : List Value} (h : RowV w g n e xs) (hk : w'.heap[g]? = w.heap[g]?) : RowV w' g n e xs := by
  obtain ⟨cur, hg, r⟩ := h
  exact ⟨cur, hk.trans hg, r⟩
theorem RowV.lt {w : World} {g n : Nat} {e : TypeId} {xs : List Value} (h : RowV w g n e xs) : g < w.heap.size := by
  obtain ⟨cur, hg, _⟩ := h
  exact (Array.getElem?_eq_some_iff.1 hg).1
theorem RowV.cell {w : World} {g n : Nat} {e : TypeId} {xs : List Value} (h : RowV w g n e xs) {k : Nat} (hk : k < n) : ∃ v, w.cell? ⟨g, k, none⟩ = some v := by
  obtain ⟨cur, hg, hs, hl, ht⟩ := h
  exact ⟨cur[k], by rw [cell_of_row w g k cur _ _ hg]; simp⟩
theorem RowV.frozen {w : World} {g n : Nat} {e : TypeId} {xs : List Value} (h : RowV w g n e xs) (k : Nat) : w.frozen? ⟨g, k, none⟩ = false := by
  obtain ⟨cur, hg, _⟩ := h
  exact frozen_of_row w g k cur _ hg
theorem RowV.new (w : World) (zs : Array Value) (e : TypeId) : RowV (w.alloc (.cells zs e)) w.heap.size zs.size e [] :=
  ⟨_, heap_alloc_new w _, rfl, Nat.zero_le _, rfl⟩
theorem RowV.owns {w : World} {g n z : Nat} {e : TypeId} {xs : List Value} {cs : List Dat} (h : RowV w g (n * z) e xs) (ho : OwnsL w (fun b => g < b) xs cs) (hl : cs.length = n * z) (hn : n ≤ maxLen) : Owns w (fun b => g ≤ b) (.slice (some ⟨g, 0, none⟩) n n) (.row e z n cs) := by
  obtain ⟨cur, hg, hs, hl2, ht⟩ := h
  have hx : xs.length = n * z := ho.1.trans hl
  exact OwnsL.row (xs := xs) (Nat.le_refl _) hg (Nat.le_refl _) hn hs hl (by rw [← hx]; exact ht) (ho.mono (fun b hb => ⟨by omega, by omega⟩))
/-- Block g of w: cap elements of z cells of type e; the cells of the first n are xs. -/
def Rw (w : World) (g : Nat) (e : TypeId) (z n cap : Nat) (xs : List Value) : Prop := ∃ cur : Array Value, w.heap[g]? = some (.cells cur e (0, 0)) ∧ cur.size = cap * z ∧ cur.toList.take (n * z) = xs
theorem Rw.keep {w w' : World} {g : Nat} {e : TypeId} {z n cap : Nat} {xs : List Value} (h : Rw w g e z n cap xs) (hk : w'.heap[g]? = w.heap[g]?) : Rw w' g e z n cap xs := by
  obtain ⟨cur, hg, r⟩ := h
  exact ⟨cur, hk.trans hg, r⟩
theorem Rw.lt {w : World} {g : Nat} {e : TypeId} {z n cap : Nat} {xs : List Value} (h : Rw w g e z n cap xs) : g < w.heap.size := by
  obtain ⟨cur, hg, r⟩ := h
  exact (Array.getElem?_eq_some_iff.1 hg).1
theorem Rw.set {w : World} {g : Nat} {e : TypeId} {z n cap : Nat} {xs : List Value} (h : Rw w g e z n cap xs) (i : Nat) (u : Value) : Rw (w.setCell ⟨g, i, none⟩ u) g e z n cap (xs.set i u) := by
  obtain ⟨cur, hg, hs, hx⟩ := h
  refine ⟨cur.setIfInBounds i u, heap_setCell_same w g i cur _ _ hg, by simpa using hs, ?_⟩
  rw [Array.toList_setIfInBounds, ← hx, List.take_set]
theorem Rw.cell {w : World} {g : Nat} {e : TypeId} {z n cap : Nat} {xs : List Value} (h : Rw w g e z n cap xs) {i : Nat} (hi : i < xs.length) : w.cell? ⟨g, i, none⟩ = some xs[i] := by
  obtain ⟨cur, hg, hs, hx⟩ := h
  rw [cell_of_row w g i cur _ _ hg]
  subst hx
  simp at hi ⊢
theorem Rw.frozen {w : World} {g : Nat} {e : TypeId} {z n cap : Nat} {xs : List Value} (h : Rw w g e z n cap xs) (k : Nat) : w.frozen? ⟨g, k, none⟩ = false := by
  obtain ⟨cur, hg, _⟩ := h
  exact frozen_of_row w g k cur _ hg
theorem Rw.owns {w : World} {S : Nat → Prop} {g : Nat} {e : TypeId} {z n cap : Nat} {xs : List Value} {cs : List Dat} (h : Rw w g e z n cap xs) (hS : S g) (ho : OwnsL w (fun b => S b ∧ b ≠ g) xs cs) (hn : n ≤ cap) (hc : cap ≤ maxLen) (hl : cs.length = n * z) : Owns w S (.slice (some ⟨g, 0, none⟩) n cap) (.row e z n cs) := by
  obtain ⟨cur, hg, hs, hx⟩ := h
  exact OwnsL.row hS hg hn hc hs hl hx ho
theorem Owns.rw' {w : World} {S : Nat → Prop} {v : Value} {e z n : Nat} {cs : List Dat} (h : Owns w S v (.row e z n cs)) :
    (v = .slice none 0 0 ∧ n = 0 ∧ cs = []) ∨ ∃ (g cap : Nat) (xs : List Value), v = .slice (some ⟨g, 0, none⟩) n cap ∧ S g ∧ Rw w g e z n cap xs ∧ n ≤ cap ∧ cap ≤ maxLen ∧ cs.length = n * z ∧ xs.length = cs.length ∧ OwnsL w (fun b => S b ∧ b ≠ g) xs cs := by
  rcases h.row' with h | ⟨g, cap, cur, xs, rfl, hS, hh, hn, hc, hs, hl, hx, ho⟩
  · exact .inl h
  · exact .inr ⟨g, cap, xs, rfl, hS, ⟨cur, hh, hs, hx⟩, hn, hc, hl, ho.1, ho⟩
/-- The cells of a list of structs of z cells each. -/
theorem flat_len {α : Type} (f : α → List Dat) (z : Nat) (ps : List α) (hf : ∀ p, (f p).length = z) : (ps.flatMap f).length = ps.length * z := by
  induction ps with
  | nil => simp
  | cons p ps ih => simp [List.flatMap_cons, ih, hf, Nat.add_mul]; omega
theorem flat_get {α : Type} (f : α → List Dat) (z : Nat) (ps : List α) (hf : ∀ p, (f p).length = z) (i j : Nat) (hi : i < ps.length) (hj : j < z) : (ps.flatMap f)[i * z + j]? = (f ps[i])[j]? := by
  induction ps generalizing i with
  | nil => simp at hi
  | cons p ps ih =>
    rw [List.flatMap_cons]
    match i with
    | 0 => rw [List.getElem?_append_left (by rw [hf]; omega)]; simp
    | i + 1 =>
      rw [List.getElem?_append_right (by rw [hf, Nat.add_mul]; omega), hf, show (i + 1) * z + j - z = i * z + j by rw [Nat.add_mul]; omega]
      simpa using ih i (by simpa using hi)
theorem flat_lt {n z i j : Nat} (hi : i < n) (hj : j < z) : i * z + j < n * z := by
  calc i * z + j < i * z + z := by omega
    _ = (i + 1) * z := by rw [Nat.add_mul]; omega
    _ ≤ n * z := Nat.mul_le_mul_right _ hi
theorem flat_one {α β : Type} (g : α → β) (l : List α) : l.flatMap (fun c => [g c]) = l.map g := by induction l <;> simp [*]
/-- Bytes, one cell each. -/
def bytesD (l : List UInt8) : Dat := .row 5 1 l.length (l.map fun c => .lit (.int .u8 (c.toNat : Int)))
theorem Reads.bytes {w : World} {B : Nat} {v : Value} {l : List UInt8} (h : Reads w B v (bytesD l)) : ∃ A cap, v = .slice A l.length cap ∧ l.length ≤ cap ∧ cap ≤ maxLen ∧ Rd w B A l := by
  obtain ⟨A, cap, rfl, hn, hc, _, _, h⟩ := h.row'
  refine ⟨A, cap, rfl, hn, hc, ?_⟩
  rcases h with h | ⟨b, off, xs, rfl, hb, hx, hcell, hr⟩
  · exact .inl (by simpa using h)
  · refine .inr ⟨b, off, rfl, hb, fun i hi => ?_⟩
    have hx' : xs.length = l.length := by simpa using hx
    rw [hcell i (by omega)]
    have := hr i (by omega) (by simpa using hi)
    rw [List.getElem_map] at this
    generalize xs[i] = x at this
    cases this
    rfl
theorem Rd.bytes {w : World} {B : Nat} {A : Option Addr} {cap : Nat} {l : List UInt8} (h : Rd w B A l) (hn : l.length ≤ cap) (hc : cap ≤ maxLen) : Reads w B (.slice A l.length cap) (bytesD l) := by
  rcases h with rfl | ⟨b, off, rfl, hb, hcell⟩
  · exact .nil A cap _ _ hc
  · refine .row b off l.length cap _ 1 (bv l) _ hb hn hc (by simp) (by simp [bv_length]) (fun i hi => ?_) (fun i hi h' => ?_)
    · rw [bv_length] at hi
      rw [hcell i hi]; simp [bv]
    · simp only [bv, List.getElem_map]; exact .lit _
theorem Own.owns {w : World} {g : Nat} {v : Value} {l : List UInt8} (h : Own w g v l) {S : Nat → Prop} (hS : S g) : Owns w S v (bytesD l) := by
  obtain ⟨cap, cur, rfl, hg, h1, h2, h3, h4⟩ := h
  refine .row S g l.length cap _ 1 cur (bv l) _ (fun _ _ => False) hS hg h1 h2 (by simpa using h3) (by simp) (by simpa using h4) (fun i hi h' => ?_) (fun _ _ h => h.elim) (fun _ _ _ _ h => h.elim)
  simp only [bv, List.getElem_map]; exact .lit _ _
theorem Owns.bytes {w : World} {S : Nat → Prop} {v : Value} {l : List UInt8} (h : Owns w S v (bytesD l)) : (v = .slice none 0 0 ∧ l = []) ∨ ∃ g, S g ∧ Own w g v l := by
  rcases h.row' with ⟨rfl, h, _⟩ | ⟨g, cap, cur, xs, rfl, hS, hh, hn, hc, hs, hl, hx, ho⟩
  · exact .inl ⟨rfl, List.length_eq_zero_iff.1 h⟩
  · refine .inr ⟨g, hS, cap, cur, rfl, hh, hn, hc, by simpa using hs, ?_⟩
    rw [Nat.mul_one] at hx
    rw [hx]
    have hr := ho.reads
    refine List.ext_getElem (by rw [hr.1, bv_length]; simp) (fun i h1 h2 => ?_)
    have := hr.2 i h1 (by rw [← hr.1]; exact h1)
    rw [List.getElem_map] at this
    simp only [bv, List.getElem_map]
    generalize xs[i] = x at this
    cases this
    rfl
end Go.Proofs.YtpfepcjbhchpcaaGreat
namespace Go.Proofs.YtpfepcjbhchpcaaGreat
open Go.RowKit
set_option maxRecDepth 100000
set_option linter.unusedSimpArgs false
set_option linter.unusedVariables false

/-- A key as a value. -/
def keyV (a b c d e : Int) : Value := .agg #[.int .i64 a, .int .i64 b, .int .i64 c, .int .i64 d, .int .i64 e]
def tgtB (c d e : Int) : Bool := if c = 1 then decide (0 ≤ d) && decide (d ≤ 23) && decide (0 ≤ e) && decide (e ≤ 999) else if c = 0 ∨ c = 2 then decide (d = 0) && decide (e = 0) else false
def keyOkB (a b c d e : Int) : Bool := decide (0 ≤ a) && decide (a ≤ 15) && decide (1 ≤ b) && decide (b ≤ 60) && tgtB c d e
def lessB (a b a' b' : Int) : Bool := if a = a' then decide (b < b') else decide (a < a')
def spotB (a b a' b' : Int) : Bool := decide (a = a') && decide (b = b')
theorem box5 {w : World} {p : Nat} {a b c d e : Value} {t : TypeId} (h : w.heap[p]? = some (.cells #[a, b, c, d, e] t (0, 0))) : w.cell? ⟨p, 0, none⟩ = some a ∧ w.cell? ⟨p, 1, none⟩ = some b ∧ w.cell? ⟨p, 2, none⟩ = some c ∧ w.cell? ⟨p, 3, none⟩ = some d ∧ w.cell? ⟨p, 4, none⟩ = some e ∧ ∀ o, w.frozen? ⟨p, o, none⟩ = false :=
  ⟨by rw [cell_of_row w p 0 _ _ _ h]; rfl, by rw [cell_of_row w p 1 _ _ _ h]; rfl, by rw [cell_of_row w p 2 _ _ _ h]; rfl, by rw [cell_of_row w p 3 _ _ _ h]; rfl, by rw [cell_of_row w p 4 _ _ _ h]; rfl, fun o => frozen_of_row w p o _ _ h⟩
def SaysK (w : World) (a b c d e : Int) (r : Ending) (w' : World) : Prop := r = .returned (keyV a b c d e) ∧ Below w.heap.size w w'
def SaysBool (w : World) (b : Bool) (r : Ending) (w' : World) : Prop := r = .returned (.bool b) ∧ Below w.heap.size w w'

theorem toKey_any (a b c d e : Int) (w : World) : Calls Tryz.prog 241 #[keyV a b c d e] w (SaysK w a b c d e) := by
  unfold keyV
  go_enter Tryz.func241, Tryz.ntmps241
  go_wp2
  exact bodyPost_ret (v := keyV a b c d e) (by simp [results, Tryz.results241, go_sem, keyV]) rfl ⟨rfl, bal3 _ _ _ _⟩

theorem targetOk_any (a b c d e : Int) (w : World) : Calls Tryz.prog 251 #[keyV a b c d e] w (SaysBool w (tgtB c d e)) := by
  unfold keyV
  have HB := Lib.hid (bal1 w (.cells #[.int .i64 a, .int .i64 b, .int .i64 c, .int .i64 d, .int .i64 e] 58))
  by_cases h1 : c = 1
  · subst h1
    by_cases k1 : 0 ≤ d <;> by_cases k2 : d < 24 <;> by_cases k3 : 0 ≤ e <;> by_cases k4 : e ≤ 999 <;> try omega
    all_goals
      go_enter Tryz.func251, Tryz.ntmps251
      go_wp2
      go_ret
      exact ⟨ret_bool (by simp only [tgtB, if_true]; symm; first | (simp; omega) | simp [*]), HB.out⟩
  · have e1 : (c == 1) = false := by simp [h1]
    by_cases h2 : c = 0 ∨ c = 2
    · have H1 := Lib.hid h1
      have H2 := Lib.hid h2
      clear h1
      have ht : tgtB c d e = (decide (d = 0) && decide (e = 0)) := by rw [tgtB, if_neg H1.out, if_pos H2.out]
      rw [ht]
      clear ht
      rcases h2 with rfl | rfl
      all_goals
        by_cases k1 : d = 0 <;> by_cases k2 : e = 0
        all_goals
          have d1 : (d == 0) = decide (d = 0) := by rfl
          have d2 : (e == 0) = decide (e = 0) := by rfl
          simp only [k1, k2, decide_true, decide_false] at d1 d2 ⊢
          go_enter Tryz.func251, Tryz.ntmps251
          go_wp2
          go_ret
          exact ⟨rfl, bal1 _ _⟩
    · have ht : tgtB c d e = false := by rw [tgtB, if_neg h1, if_neg h2]
      rw [ht]
      have e2 : (c == 0) = false := by simp; omega
      have e3 : (c == 2) = false := by simp; omega
      clear h1 h2 ht
      go_enter Tryz.func251, Tryz.ntmps251
      go_wp2
      go_ret
      exact ⟨rfl, HB.out⟩
theorem implKeyOk_any (a b c d e : Int) (w : World) : Calls Tryz.prog 238 #[keyV a b c d e] w (SaysBool w (keyOkB a b c d e)) := by
  have HT := Lib.hid (targetOk_any a b c d e)
  unfold keyV at HT ⊢
  have HB := Lib.hid (bal1 w (.cells #[.int .i64 a, .int .i64 b, .int .i64 c, .int .i64 d, .int .i64 e] 58))
  unfold keyOkB
  generalize tgtB c d e = T at *
  by_cases h1 : 0 ≤ a <;> by_cases h2 : a ≤ 15 <;> by_cases h3 : 1 ≤ b <;> by_cases h4 : b ≤ 60 <;> try omega
  all_goals
    simp only [h1, h2, h3, h4, decide_true, decide_false, Bool.true_and, Bool.false_and]
    go_enter Tryz.func238, Tryz.ntmps238
    go_wp2_with (go_at_call 251; refine (HT.out _).mono ?_; rintro r w1 ⟨rfl, b1⟩; have hb := bstep HB.out b1; clear b1)
    go_ret
    first | exact ⟨rfl, hb⟩ | exact ⟨rfl, HB.out⟩
theorem keyOk_out {a b c d e : Int} (h : inB a 0 15 = false ∨ inB b 1 60 = false ∨ inB c 0 2 = false) : keyOkB a b c d e = false := by
  have h2 : ¬ (0 ≤ a ∧ a ≤ 15 ∧ 1 ≤ b ∧ b ≤ 60 ∧ 0 ≤ c ∧ c ≤ 2) := by
    intro k
    simp [inB] at h
    omega
  cases hk : keyOkB a b c d e with
  | false => rfl
  | true =>
    refine absurd ?_ h2
    have ht : tgtB c d e = true → 0 ≤ c ∧ c ≤ 2 := by
      unfold tgtB
      split
      · omega
      · split
        · omega
        · intro h; cases h
    simp only [keyOkB, Bool.and_eq_true, decide_eq_true_eq] at hk
    obtain ⟨⟨⟨⟨x1, x2⟩, x3⟩, x4⟩, x5⟩ := hk
    exact ⟨x1, x2, x3, x4, ht x5⟩
theorem keyOk_data {a b d e : Int} (h1 : inB a 0 15 = true) (h2 : inB b 1 60 = true) : keyOkB a b 1 d e = (inB d 0 23 && inB e 0 999) := by
  simp [inB] at h1 h2
  simp [keyOkB, tgtB, inB, h1, h2, Bool.and_assoc]
theorem keyOk_rest {a b c d e : Int} (h1 : inB a 0 15 = true) (h2 : inB b 1 60 = true) (h3 : inB c 0 2 = true) (h4 : c ≠ 1) : keyOkB a b c d e = (decide (d = 0) && decide (e = 0)) := by
  simp [inB] at h1 h2 h3
  rw [keyOkB, tgtB, if_neg h4, if_pos (by omega)]
  simp [h1, h2]
theorem specKeyOk_any (a b c d e : Int) (w : World) : Calls Tryz.prog 91 #[keyV a b c d e] w (SaysBool w (keyOkB a b c d e)) := by
  unfold keyV
  have HB := Lib.hid (bal1 w (.cells #[.int .i64 a, .int .i64 b, .int .i64 c, .int .i64 d, .int .i64 e] 58))
  cases h1 : inB a 0 15
  · have H1 := Lib.hid h1
    rw [keyOk_out (.inl h1)]
    clear h1
    go_enter Tryz.func91, Tryz.ntmps91
    go_wp2_with (go_at_call 58; refine (in_any _ _ _ _).mono ?_; rintro r w1 ⟨rfl, rfl⟩; rw [H1.out])
    go_ret
    exact ⟨rfl, HB.out⟩
  · cases h2 : inB b 1 60
    · have H1 := Lib.hid h1
      have H2 := Lib.hid h2
      rw [keyOk_out (.inr (.inl h2))]
      clear h1 h2
      go_enter Tryz.func91, Tryz.ntmps91
      go_wp2_with (go_at_call 58; refine (in_any _ _ _ _).mono ?_; rintro r w1 ⟨rfl, rfl⟩; (first | rw [H1.out] | rw [H2.out]))
      go_ret
      exact ⟨rfl, HB.out⟩
    · cases h3 : inB c 0 2
      · have H1 := Lib.hid h1
        have H2 := Lib.hid h2
        have H3 := Lib.hid h3
        rw [keyOk_out (.inr (.inr h3))]
        clear h1 h2 h3
        go_enter Tryz.func91, Tryz.ntmps91
        go_wp2_with (go_at_call 58; refine (in_any _ _ _ _).mono ?_; rintro r w1 ⟨rfl, rfl⟩; (first | rw [H1.out] | rw [H2.out] | rw [H3.out]))
        go_ret
        exact ⟨rfl, HB.out⟩
      · have H1 := Lib.hid h1
        have H2 := Lib.hid h2
        have H3 := Lib.hid h3
        by_cases hc : c = 1
        · subst hc
          rw [keyOk_data h1 h2]
          clear h1 h2 h3
          cases h4 : inB d 0 23
          all_goals
            have H4 := Lib.hid h4
            clear h4
            go_enter Tryz.func91, Tryz.ntmps91
            go_wp2_with (go_at_call 58; refine (in_any _ _ _ _).mono ?_; rintro r w1 ⟨rfl, rfl⟩; (first | rw [H1.out] | rw [H2.out] | rw [H3.out] | rw [H4.out] | skip))
            go_ret
            exact ⟨rfl, bal1 _ _⟩
        · rw [keyOk_rest h1 h2 h3 hc]
          clear h1 h2 h3
          have e1 : (c == 1) = false := by simp [hc]
          clear hc
          by_cases k1 : d = 0 <;> by_cases k2 : e = 0
          all_goals
            have d1 : (d == 0) = decide (d = 0) := by rfl
            have d2 : (e == 0) = decide (e = 0) := by rfl
            simp only [k1, k2, decide_true, decide_false] at d1 d2 ⊢
            go_enter Tryz.func91, Tryz.ntmps91
            go_wp2_with (go_at_call 58; refine (in_any _ _ _ _).mono ?_; rintro r w1 ⟨rfl, rfl⟩; (first | rw [H1.out] | rw [H2.out] | rw [H3.out]))
            go_ret
            exact ⟨rfl, bal1 _ _⟩
theorem implLessKey_any (a b c d e a' b' c' d' e' : Int) (w : World) : Calls Tryz.prog 244 #[keyV a b c d e, keyV a' b' c' d' e'] w (SaysBool w (lessB a b a' b')) := by
  unfold keyV
  have HB := Lib.hid (bal2 w (.cells #[.int .i64 a, .int .i64 b, .int .i64 c, .int .i64 d, .int .i64 e] 58) (.cells #[.int .i64 a', .int .i64 b', .int .i64 c', .int .i64 d', .int .i64 e'] 58))
  unfold lessB
  by_cases h : a = a'
  · subst h
    rw [if_pos rfl]
    go_enter Tryz.func244, Tryz.ntmps244
    go_wp2
    go_ret
    exact ⟨rfl, HB.out⟩
  · have e1 : (a != a') = true := by simp [h]
    rw [if_neg h]
    go_enter Tryz.func244, Tryz.ntmps244
    go_wp2
    go_ret
    exact ⟨rfl, HB.out⟩
theorem specLessKey_any (a b c d e a' b' c' d' e' : Int) (w : World) : Calls Tryz.prog 163 #[keyV a b c d e, keyV a' b' c' d' e'] w (SaysBool w (lessB a b a' b')) := by
  unfold keyV
  have HB := Lib.hid (bal2 w (.cells #[.int .i64 a, .int .i64 b, .int .i64 c, .int .i64 d, .int .i64 e] 58) (.cells #[.int .i64 a', .int .i64 b', .int .i64 c', .int .i64 d', .int .i64 e'] 58))
  unfold lessB
  by_cases h : a = a'
  · subst h
    rw [if_pos rfl]
    go_enter Tryz.func163, Tryz.ntmps163
    go_wp2
    go_ret
    exact ⟨rfl, HB.out⟩
  · have e1 : (a != a') = true := by simp [h]
    rw [if_neg h]
    go_enter Tryz.func163, Tryz.ntmps163
    go_wp2
    go_ret
    exact ⟨rfl, HB.out⟩
theorem specSameSpot_any (a b c d e a' b' c' d' e' : Int) (w : World) : Calls Tryz.prog 164 #[keyV a b c d e, keyV a' b' c' d' e'] w (SaysBool w (spotB a b a' b')) := by
  unfold keyV
  have HB := Lib.hid (bal2 w (.cells #[.int .i64 a, .int .i64 b, .int .i64 c, .int .i64 d, .int .i64 e] 58) (.cells #[.int .i64 a', .int .i64 b', .int .i64 c', .int .i64 d', .int .i64 e'] 58))
  unfold spotB
  by_cases h : a = a'
  · subst h
    have e2 : (b == b') = decide (b = b') := rfl
    go_enter Tryz.func164, Tryz.ntmps164
    go_wp2
    go_ret
    exact ⟨ret_bool (by simp), HB.out⟩
  · have e1 : (a == a') = false := by simp [h]
    go_enter Tryz.func164, Tryz.ntmps164
    go_wp2
    go_ret
    exact ⟨ret_bool (by simp [h]), HB.out⟩
end Go.Proofs.YtpfepcjbhchpcaaGreat
namespace Go.Proofs.YtpfepcjbhchpcaaGreat
open Go.RowKit Go.ChangeShapes Go.WideShapes Go.Deep
set_option maxRecDepth 100000
set_option linter.unusedSimpArgs false
set_option linter.unusedVariables false

theorem ReadsL.nil (w : World) (B : Nat) : ReadsL w B [] [] := ⟨rfl, fun i h => by simp at h⟩
theorem ReadsL.append {w : World} {B : Nat} {vs us : List Value} {cs ds : List Dat} (h : ReadsL w B vs cs) (k : ReadsL w B us ds) : ReadsL w B (vs ++ us) (cs ++ ds) := by
  refine ⟨by simp [h.1, k.1], fun i a b => ?_⟩
  have hl := h.1
  by_cases hi : i < vs.length
  · rw [List.getElem_append_left hi, List.getElem_append_left (by omega)]; exact h.2 i hi (by omega)
  · rw [List.getElem_append_right (by omega), List.getElem_append_right (by omega)]
    simp only [List.length_append] at a b
    simp only [← hl]
    exact k.2 _ (by omega) (by omega)
theorem ReadsL.one {w : World} {B : Nat} {v : Value} {c : Dat} (h : Reads w B v c) : ReadsL w B [v] [c] := by
  refine ⟨rfl, fun i a b => ?_⟩
  match i, a with
  | 0, _ => exact h

/-- Whatever a reading at type t meets, its cells read as one of C's lists of data. -/
def Opens (P : Program) (t : TypeId) (C : List Dat → Prop) : Prop :=
  ∀ (H : Type) (enc : TypeId × Value → H) (w : World) (base : Nat) (spare : Nat → Bool) (held : Bool) (fuel : Nat) (cs : List Value) (x : DataW H × List MemPlace),
    DataW.trod enc P w base spare held fuel t cs = some x → ∃ ds, C ds ∧ ReadsL w w.heap.size cs ds
theorem Opens.weaken {P : Program} {t : TypeId} {C D : List Dat → Prop} (h : Opens P t C) (hC : ∀ ds, C ds → D ds) : Opens P t D := fun H enc w base spare held fuel cs x hx => by
  obtain ⟨ds, h1, h2⟩ := h H enc w base spare held fuel cs x hx
  exact ⟨ds, hC ds h1, h2⟩
theorem Opens.int {P : Program} {t : TypeId} {k : IntKind} (ht : P.underlying t = some (.int k)) : Opens P t (fun ds => ∃ n, ds = [.lit (.int k n)] ∧ (Lit.int k n).wf = true) := fun H enc w base spare held fuel cs x hx => by
  obtain ⟨n, rfl, _, hw⟩ := DataW.trod_int ht hx
  exact ⟨_, ⟨n, rfl, hw⟩, .one (.lit _)⟩
theorem Opens.bool {P : Program} {t : TypeId} (ht : P.underlying t = some .bool) : Opens P t (fun ds => ∃ b : Bool, ds = [.lit (.bool b)]) := fun H enc w base spare held fuel cs x hx => by
  obtain ⟨n, rfl, _⟩ := DataW.trod_bool ht hx
  exact ⟨_, ⟨n, rfl⟩, .one (.lit _)⟩
theorem Opens.slice {P : Program} {t e : TypeId} {z : Nat} {α : Type} (f : α → List Dat) (hf : ∀ a, (f a).length = z) (hz : 0 < z) (ht : P.underlying t = some (.slice e)) (hc : P.cellsOf e = z) (he : Opens P e (fun ds => ∃ a, ds = f a)) (e' : TypeId) :
    Opens P t (fun ds => ∃ l : List α, ds = [.row e' z l.length (l.flatMap f)]) := fun H enc w base spare held fuel cs x hx => by
  rcases open_slice ht hx with ⟨rfl, _⟩ | ⟨a, len, cap, m, n, D, Pl, rfl, hb, hl, hm, hmm, _, hi⟩
  · exact ⟨_, ⟨[], rfl⟩, .one (.nil none 0 e' z (Nat.zero_le _))⟩
  · have hlm : len ≤ m := by rw [hmm]; split <;> omega
    rw [hc] at hi
    have key : ∀ k, k ≤ len → ∃ (l : List α) (xs : List Value), l.length = k ∧ ReadsL w w.heap.size xs (l.flatMap f) ∧ ∀ j (h : j < xs.length), w.cell? (a.add j) = some xs[j] := by
      intro k
      induction k with
      | zero => exact fun _ => ⟨[], [], rfl, .nil _ _, fun j h => by simp at h⟩
      | succ k ih =>
        intro hk
        obtain ⟨l, xs, h1, h2, h3⟩ := ih (by omega)
        obtain ⟨cs', hcs, htr⟩ := hi k (by omega)
        obtain ⟨_, hcl, hat⟩ := World.cells?_some hcs
        obtain ⟨ds, ⟨b, rfl⟩, hr⟩ := he _ _ _ _ _ _ _ _ _ htr
        have hxl : xs.length = k * z := by rw [h2.1, ← h1]; exact flat_len f z l hf
        refine ⟨l ++ [b], xs ++ cs', by simp [h1], by rw [List.flatMap_append, List.flatMap_singleton]; exact h2.append hr, fun j hj => ?_⟩
        by_cases hjx : j < xs.length
        · rw [List.getElem_append_left hjx]; exact h3 j hjx
        · rw [List.getElem_append_right (by omega)]
          simp only [List.length_append] at hj
          have h4 := hat (j - xs.length) (by omega)
          rw [Go.Deep.add_add, hxl, show k * z + (j - k * z) = j by omega] at h4
          rw [h4, List.getElem?_eq_getElem (by omega)]
          simp only [hxl]
    obtain ⟨l, xs, h1, h2, h3⟩ := key len (Nat.le_refl _)
    subst h1
    have hfl : (l.flatMap f).length = l.length * z := flat_len f z l hf
    refine ⟨_, ⟨l, rfl⟩, .one ?_⟩
    by_cases h0 : l = []
    · subst h0; exact .nil _ _ _ _ hm
    · have hpos : 0 < xs.length := by
        rw [h2.1, hfl]
        exact Nat.mul_pos (List.length_pos_iff.2 h0) hz
      obtain ⟨b, off, spot⟩ := a
      have hs : spot = none := by simpa [Addr.add] using World.cell?_spot (h3 0 hpos)
      subst hs
      exact .row b off l.length cap e' z xs _ (World.block_lt_of_cell? w _ (h3 0 hpos)) hl hm hfl h2.1 (fun i hi => by have := h3 i hi; rw [Addr.add_lit] at this; exact this) h2.2
/-- The fields lie one behind another. -/
def contig (P : Program) : List Field → Nat → Nat → Bool
  | [], o, n => o == n
  | f :: fs, o, n => f.offset == o && contig P fs (o + P.cellsOf f.type) n
theorem contig_cells (P : Program) (fs : List Field) (o : Nat) (cs : List Value) (h : contig P fs o cs.length = true) : cs.drop o = (fs.map fun f => (cs.drop f.offset).take (P.cellsOf f.type)).flatten := by
  induction fs generalizing o with
  | nil => simp [contig] at h; subst h; simp
  | cons f fs ih =>
    simp only [contig, Bool.and_eq_true, beq_iff_eq] at h
    obtain ⟨rfl, h⟩ := h
    simp only [List.map_cons, List.flatten_cons]
    rw [← ih _ h, ← List.drop_drop, List.take_append_drop]
theorem Opens.struct {P : Program} {t : TypeId} {fs : Array Field} (ht : P.underlying t = some (.struct fs)) (hcg : contig P fs.toList 0 (P.cellsOf t) = true) (Cs : List (List Dat → Prop)) (hl : Cs.length = fs.size)
    (hC : ∀ (i : Nat) (h : i < fs.size), Opens P fs[i].type (Cs[i]'(by omega))) :
    Opens P t (fun ds => ∃ dss : List (List Dat), ∃ hd : dss.length = Cs.length, (∀ i (h : i < dss.length), (Cs[i]'(by omega)) dss[i]) ∧ ds = dss.flatten) := fun H enc w base spare held fuel cs x hx => by
  obtain ⟨xs, n, _, _, hcl, hxl, hf⟩ := DataW.trod_struct ht hx
  have hcs : cs = (fs.toList.map fun f => (cs.drop f.offset).take (P.cellsOf f.type)).flatten := by
    have := contig_cells P fs.toList 0 cs (by rw [hcl]; exact hcg)
    simpa using this
  have key : ∀ k, k ≤ fs.size → ∃ dss : List (List Dat), ∃ hd : dss.length = k, (∀ i (h : i < dss.length) (h' : i < Cs.length), Cs[i] dss[i]) ∧ ReadsL w w.heap.size ((fs.toList.take k).map fun f => (cs.drop f.offset).take (P.cellsOf f.type)).flatten dss.flatten := by
    intro k
    induction k with
    | zero => exact fun _ => ⟨[], rfl, fun i h => by simp at h, .nil _ _⟩
    | succ k ih =>
      intro hk
      obtain ⟨dss, hd, h1, h2⟩ := ih (by omega)
      have h3 := hf k fs[k] (Array.getElem?_eq_getElem (by omega))
      rw [List.getElem?_eq_getElem (by omega)] at h3
      obtain ⟨ds, h4, h5⟩ := hC k (by omega) _ _ _ _ _ _ _ _ _ h3
      refine ⟨dss ++ [ds], by simp [hd], fun i h h' => ?_, ?_⟩
      · by_cases hi : i < dss.length
        · rw [List.getElem_append_left hi]; exact h1 i hi h'
        · simp only [List.length_append, List.length_singleton] at h
          have : i = k := by omega
          subst this
          rw [List.getElem_append_right (by omega)]
          simp only [hd, Nat.sub_self, List.getElem_singleton]
          exact h4
      · rw [List.take_succ_eq_append_getElem (by simp; omega), List.map_append, List.flatten_append, List.flatten_append]
        refine h2.append ?_
        simpa using h5
  obtain ⟨dss, hd, h1, h2⟩ := key fs.size (Nat.le_refl _)
  rw [show fs.toList.take fs.size = fs.toList from List.take_of_length_le (by simp), ← hcs] at h2
  exact ⟨_, ⟨dss, hd.trans hl.symm, fun i h => h1 i h (by rw [hl, ← hd]; exact h), rfl⟩, h2⟩
end Go.Proofs.YtpfepcjbhchpcaaGreat
namespace Go.Proofs.YtpfepcjbhchpcaaGreat
open Go.RowKit Go.ChangeShapes Go.WideShapes Go.Deep
set_option maxRecDepth 100000
set_option linter.unusedSimpArgs false
set_option linter.unusedVariables false

structure KeyD where
  (a b c d e : Int)
theorem key_opens : Opens Tryz.prog 236 (fun ds => ∃ a b c d e, ds = [.lit (.int .i64 a), .lit (.int .i64 b), .lit (.int .i64 c), .lit (.int .i64 d), .lit (.int .i64 e)]) := by
  have h := Opens.struct (P := Tryz.prog) Tryz.underlying236 (by kernel_rfl) (List.replicate 5 (fun ds => ∃ n, ds = [Dat.lit (.int .i64 n)] ∧ (Lit.int .i64 n).wf = true)) rfl (fun i hi => by
    match i, hi with
    | 0, _ => exact Opens.int Tryz.underlying3
    | 1, _ => exact Opens.int Tryz.underlying3
    | 2, _ => exact Opens.int Tryz.underlying3
    | 3, _ => exact Opens.int Tryz.underlying3
    | 4, _ => exact Opens.int Tryz.underlying3)
  refine h.weaken (fun ds ⟨dss, hd, hC, hds⟩ => ?_)
  match dss, hd with
  | [a, b, c, d, e], _ =>
    obtain ⟨n0, h0, _⟩ := hC 0 (by simp)
    obtain ⟨n1, h1, _⟩ := hC 1 (by simp)
    obtain ⟨n2, h2, _⟩ := hC 2 (by simp)
    obtain ⟨n3, h3, _⟩ := hC 3 (by simp)
    obtain ⟨n4, h4, _⟩ := hC 4 (by simp)
    simp at h0 h1 h2 h3 h4
    subst h0 h1 h2 h3 h4
    exact ⟨n0, n1, n2, n3, n4, by rw [hds]; rfl⟩
/-- What the two boxes of a pair of keys hold, cell by cell. -/
theorem keys_held {w W : World} {p q : Nat} {a b c d e a' b' c' d' e' : Value} {t : TypeId} (hp : w.heap[p]? = some (.cells #[a, b, c, d, e] t (0, 0))) (hq : w.heap[q]? = some (.cells #[a', b', c', d', e'] t (0, 0))) (hb : Below w.heap.size w W) :
    W.cell? ⟨p, 0, none⟩ = some a ∧ W.cell? ⟨p, 1, none⟩ = some b ∧ W.cell? ⟨p, 2, none⟩ = some c ∧ W.cell? ⟨p, 3, none⟩ = some d ∧ W.cell? ⟨p, 4, none⟩ = some e ∧ W.cell? ⟨q, 0, none⟩ = some a' ∧ W.cell? ⟨q, 1, none⟩ = some b' ∧ W.cell? ⟨q, 2, none⟩ = some c' ∧ W.cell? ⟨q, 3, none⟩ = some d' ∧ W.cell? ⟨q, 4, none⟩ = some e' := by
  obtain ⟨x0, x1, x2, x3, x4, _⟩ := box5 (box_on hp hb)
  obtain ⟨y0, y1, y2, y3, y4, _⟩ := box5 (box_on hq hb)
  exact ⟨x0, x1, x2, x3, x4, y0, y1, y2, y3, y4⟩
theorem Below.drew1 (w : World) : Below w.heap.size w w.drew := ⟨rfl, rfl, rfl, Nat.le_refl _, fun _ _ => rfl⟩
theorem positionOf_any (a b c d e : Int) (w : World) : Calls Tryz.prog 250 #[keyV a b c d e] w fun r w' => r = .returned (.agg #[.int .i64 a, .int .i64 b]) ∧ Below w.heap.size w w' := by
  unfold keyV
  go_enter Tryz.func250, Tryz.ntmps250
  go_wp2
  exact bodyPost_ret (v := .agg #[.int .i64 a, .int .i64 b]) (by simp [results, Tryz.results250, go_sem]) rfl ⟨rfl, bal2 _ _ _⟩
set_option maxHeartbeats 1000000 in
theorem implSameSpot_any (a b c d e a' b' c' d' e' : Int) (w : World) : Calls Tryz.prog 237 #[keyV a b c d e, keyV a' b' c' d' e'] w (SaysBool w (spotB a b a' b')) := by
  have hsp : ∃ x y, (a == a') = x ∧ (b == b') = y ∧ spotB a b a' b' = (x && y) := ⟨_, _, rfl, rfl, rfl⟩
  obtain ⟨x, y, hx, hy, hxy⟩ := hsp
  rw [hxy]
  clear hxy
  have HP := Lib.hid positionOf_any
  unfold keyV at HP ⊢
  obtain ⟨q0, q1⟩ := al2 w (.cells #[.int .i64 a, .int .i64 b, .int .i64 c, .int .i64 d, .int .i64 e] 58) (.cells #[.int .i64 a', .int .i64 b', .int .i64 c', .int .i64 d', .int .i64 e'] 58)
  have Q0 := Lib.hid q0
  have Q1 := Lib.hid q1
  have HB := Lib.hid (bal2 w (.cells #[.int .i64 a, .int .i64 b, .int .i64 c, .int .i64 d, .int .i64 e] 58) (.cells #[.int .i64 a', .int .i64 b', .int .i64 c', .int .i64 d', .int .i64 e'] 58))
  clear q0 q1
  cases x <;> cases y
  all_goals
    go_enter Tryz.func237, Tryz.ntmps237
    go_upto_region 1 with (fail)
    generalize (w.alloc (.cells #[.int .i64 a, .int .i64 b, .int .i64 c, .int .i64 d, .int .i64 e] 58)).alloc (.cells #[.int .i64 a', .int .i64 b', .int .i64 c', .int .i64 d', .int .i64 e'] 58) = W at *
    obtain ⟨x0, x1, x2, x3, x4, y0, y1, y2, y3, y4⟩ := keys_held Q0.out Q1.out (Below.refl _ _)
    go_region_held3 (fun V => V.cell? ⟨w.heap.size, 0, none⟩ = some (.int .i64 a) ∧ V.cell? ⟨w.heap.size, 1, none⟩ = some (.int .i64 b) ∧ V.cell? ⟨w.heap.size, 2, none⟩ = some (.int .i64 c) ∧ V.cell? ⟨w.heap.size, 3, none⟩ = some (.int .i64 d) ∧ V.cell? ⟨w.heap.size, 4, none⟩ = some (.int .i64 e) ∧ V.cell? ⟨w.heap.size + 1, 0, none⟩ = some (.int .i64 a') ∧ V.cell? ⟨w.heap.size + 1, 1, none⟩ = some (.int .i64 b') ∧ V.cell? ⟨w.heap.size + 1, 2, none⟩ = some (.int .i64 c') ∧ V.cell? ⟨w.heap.size + 1, 3, none⟩ = some (.int .i64 d') ∧ V.cell? ⟨w.heap.size + 1, 4, none⟩ = some (.int .i64 e'))
      (first | with_reducible exact keys_held Q0.out Q1.out B8 | with_reducible exact keys_held Q0.out Q1.out B7 | with_reducible exact keys_held Q0.out Q1.out (Below.drew1 _) | exact ⟨x0, x1, x2, x3, x4, y0, y1, y2, y3, y4⟩)
      (first
        | (go_at_call 250; refine (HP.out _ _ _ _ _ _).mono ?_; rintro r w8 ⟨rfl, b8⟩; have B8 := bstep B7 b8)
        | (go_at_call 250; refine (HP.out _ _ _ _ _ _).mono ?_; rintro r w7 ⟨rfl, b7⟩; have B7 := bstep (Below.drew1 _) b7))
    all_goals
      go_wp2
      go_ret
      exact ⟨rfl, bstep HB.out B8⟩
end Go.Proofs.YtpfepcjbhchpcaaGreat
namespace Go.Proofs.YtpfepcjbhchpcaaGreat
open Go.RowKit
set_option maxRecDepth 100000
set_option linter.unusedSimpArgs false
set_option linter.unusedVariables false

/-- From the address A on lie the values xs. -/
def At (w : World) (A : Option Addr) (xs : List Value) : Prop := xs = [] ∨ ∃ b off, A = some ⟨b, off, none⟩ ∧ ∀ i (h : i < xs.length), w.cell? ⟨b, off + i, none⟩ = some xs[i]
theorem run_appV {P : Program} (w : World) (ty t e z by_ : Nat) (zero : Value) (ht : P.underlying t = some (.slice e)) (hinfo : (P.info? e).map (fun i => (i.zero, i.size, i.bytes)) = some (some zero, z, by_)) (hzc : zero.cells.size = z) (hz : 0 < z) (hby : by_ ≤ 1024)
    (base n : Nat) (v : Value) (xs : List Value) (hown : w.ownsRow base e z v n xs) (A : Option Addr) (m c : Nat) (news : List Value) (hl : news.length = m * z) (hA : At w A news) (h1 : ∀ u ∈ news, u.oneCell' = true) (hlen : n + m ≤ 1073741824) (hbase : base ≤ w.heap.size) :
    ∃ v' w', (Builtin.append_ #[t, t] ty #[v, .slice A m c]).run P w = .ok v' w' ∧ w'.ownsRow base e z v' (n + m) (xs ++ news) ∧ w.grownBy w' v.ownBlock ∧ (v' = .slice none 0 0 ↔ v = .slice none 0 0 ∧ m = 0) ∧ (v'.ownBlock = v.ownBlock ∨ v'.ownBlock = some w.heap.size) := by
  obtain ⟨i, hi, h0, hs, hb⟩ := info_parts hinfo
  rcases A with _ | ad
  · have hn : news = [] := by
      rcases hA with h | ⟨b, off, h, _⟩
      · exact h
      · cases h
    subst hn
    have hm : m = 0 := by
      rcases Nat.mul_eq_zero.1 (show m * z = 0 from hl.symm) with h | h
      · exact h
      · omega
    subst hm
    refine ⟨v, w, ?_, by simpa using hown, World.grownBy.refl _ _, by simp, .inl rfl⟩
    rcases hown.2 with ⟨rfl, rfl⟩ | ⟨g, cap, cur, rfl, _, hg, a1, a2, a3, a4⟩
    · simp [Builtin.append_, run_underlying ht, sizeOf, typeInfo, hi, Builtin.lenOf, Builtin.firstCells]
    · simp [Builtin.append_, run_underlying ht, sizeOf, typeInfo, hi, Builtin.lenOf, Builtin.firstCells, a1, storeCells]
  · have hcells : ∀ j u, news[j]? = some u → w.cell? (ad.add j) = some u := by
      intro j u hu
      have hj := (List.getElem?_eq_some_iff.1 hu).1
      rcases hA with h | ⟨b, off, he, hc⟩
      · subst h; simp at hj
      · injection he with he
        subst he
        rw [Addr.add_lit, hc j hj]
        rw [List.getElem?_eq_getElem hj] at hu
        exact hu
    have hmul : (n + m) * by_ ≤ 140737488355328 := Nat.le_trans (Nat.mul_le_mul hlen hby) (by decide)
    exact run_append_own_at (P := P) w base t ty e i zero z by_ ht hi h0 hs hb hzc hz v n xs hown ad m c news hl hcells h1 (by unfold maxLen; omega) hmul hbase
theorem wpList_appV {P : Program} {ops : Array Oper} {rest : List Oper} {o : Oper} {a : Act} {Q : Exit → Act → World → Prop} (w : World) (hgd : o.guard = none) (s x : Operand) (t e z by_ : Nat) (zero : Value)
    (hop : o.op = .call { callee := .builtin .append, args := #[s, x], argTypes := #[t, t] }) (ht : P.underlying t = some (.slice e)) (hinfo : (P.info? e).map (fun i => (i.zero, i.size, i.bytes)) = some (some zero, z, by_)) (hzc : zero.cells.size = z) (hz : 0 < z) (hby : by_ ≤ 1024)
    (base n : Nat) (v : Value) (xs : List Value) (hs : a.eval s = v) (hown : w.ownsRow base e z v n xs) (A : Option Addr) (m c : Nat) (news : List Value) (hx : a.eval x = .slice A m c) (hl : news.length = m * z) (hA : At w A news) (h1 : ∀ u ∈ news, u.oneCell' = true) (hlen : n + m ≤ 1073741824) (hbase : base ≤ w.heap.size)
    (h : ∀ v' w', w'.ownsRow base e z v' (n + m) (xs ++ news) → w.grownBy w' v.ownBlock → (v' = .slice none 0 0 ↔ v = .slice none 0 0 ∧ m = 0) → (v'.ownBlock = v.ownBlock ∨ v'.ownBlock = some w.heap.size) → wpList P ops Q rest (a.put o.dst v') w') : wpList P ops Q (o :: rest) a w := by
  refine wpList_plain hgd fun K hK => ?_
  obtain ⟨v', w', hrun, h2, h3, h4, h5⟩ := run_appV (P := P) w o.type t e z by_ zero ht hinfo hzc hz hby base n v xs hown A m c news hl hA h1 hlen hbase
  unfold Oper.wp execOp
  simp only [hop, resolve, invoke, builtin, Sem.run_bind, Sem.run_pure, Result.andThen_ok, List.map_toArray, List.map_cons, List.map_nil, hs, hx, hrun]
  exact hK _ _ (h v' w' h2 h3 h4 h5)
/-- What an owned row is: nil, or a block. -/
theorem row_cases {w : World} {base e z n : Nat} {v : Value} {xs : List Value} (h : w.ownsRow base e z v n xs) : (v = .slice none 0 0 ∧ n = 0 ∧ xs = []) ∨ ∃ g cap, v = .slice (some ⟨g, 0, none⟩) n cap ∧ base ≤ g ∧ Rw w g e z n cap xs ∧ n ≤ cap ∧ cap ≤ maxLen ∧ xs.length = n * z := by
  obtain ⟨hl, h | ⟨g, cap, cur, rfl, hb, hg, h1, h2, h3, h4⟩⟩ := h
  · obtain ⟨rfl, rfl⟩ := h
    exact .inl ⟨rfl, rfl, List.length_eq_zero_iff.1 (by simpa using hl)⟩
  · exact .inr ⟨g, cap, rfl, hb, ⟨cur, hg, h3, h4⟩, h1, h2, hl⟩
theorem Rw.row {w : World} {base g e z n cap : Nat} {xs : List Value} (h : Rw w g e z n cap xs) (hb : base ≤ g) (hn : n ≤ cap) (hc : cap ≤ maxLen) (hl : xs.length = n * z) : w.ownsRow base e z (.slice (some ⟨g, 0, none⟩) n cap) n xs := by
  obtain ⟨cur, hg, hs, hx⟩ := h
  exact ⟨hl, .inr ⟨g, cap, cur, rfl, hb, hg, hn, hc, hs, hx⟩⟩
theorem row_nil (w : World) (base e z : Nat) : w.ownsRow base e z (.slice none 0 0) 0 [] := ⟨by simp, .inl ⟨rfl, rfl⟩⟩
theorem row_lit (w : World) (e z : Nat) : (w.alloc (.cells #[] e)).ownsRow w.heap.size e z (.slice (some ⟨w.heap.size, 0, none⟩) 0 0) 0 [] :=
  ⟨by simp, .inr ⟨w.heap.size, 0, #[], rfl, Nat.le_refl _, heap_alloc_new w _, Nat.zero_le _, Nat.zero_le _, by simp, by simp⟩⟩
/-- An owned row of owned cells. -/
theorem row_owns {w : World} {base e z n : Nat} {v : Value} {xs : List Value} {cs : List Dat} (h : w.ownsRow base e z v n xs) (ho : OwnsL w (fun b => base ≤ b ∧ v.ownBlock ≠ some b) xs cs) (hl : cs.length = n * z) : Owns w (fun b => base ≤ b) v (.row e z n cs) := by
  rcases row_cases h with ⟨rfl, rfl, rfl⟩ | ⟨g, cap, rfl, hb, hR, hn, hc, _⟩
  · have : cs = [] := List.length_eq_zero_iff.1 (by simpa using hl)
    subst this
    exact .nil _ _ _
  · exact hR.owns hb (ho.mono (fun b hb => ⟨hb.1, fun e => hb.2 (by rw [e]; rfl)⟩)) hn hc hl

theorem row_keep {w w' : World} {base e z n : Nat} {v : Value} {xs : List Value} (h : w.ownsRow base e z v n xs) (hk : ∀ g, v.ownBlock = some g → w'.heap[g]? = w.heap[g]?) : w'.ownsRow base e z v n xs := by
  obtain ⟨hl, h | ⟨g, cap, cur, rfl, hb, hg, r⟩⟩ := h
  · exact ⟨hl, .inl h⟩
  · exact ⟨hl, .inr ⟨g, cap, cur, rfl, hb, (hk g rfl).trans hg, r⟩⟩
theorem row_lt {w : World} {base e z n : Nat} {v : Value} {xs : List Value} (h : w.ownsRow base e z v n xs) : ∀ g, v.ownBlock = some g → g < w.heap.size ∧ base ≤ g := by
  intro g hg
  rcases row_cases h with ⟨rfl, _⟩ | ⟨g', cap, rfl, hb, hR, _⟩
  · simp [Value.ownBlock] at hg
  · simp [Value.ownBlock] at hg; subst hg; exact ⟨hR.lt, hb⟩
theorem row_on {w w' : World} {base e z n : Nat} {v : Value} {xs : List Value} (h : w.ownsRow base e z v n xs) (hb : Below w.heap.size w w') : w'.ownsRow base e z v n xs := row_keep h (fun g hg => hb.block g (row_lt h g hg).1)
theorem run_eqnil {P : Program} (w : World) (t e : TypeId) (a : Option Addr) (n c : Nat) (h : P.underlying t = some (.slice e)) : (binOp .eql t (.slice a n c) (.slice none 0 0)).run P w = .ok (.bool a.isNone) w := by
  have hh : ∀ d : Nat, (Op.equalIn (d + 1) t (.slice a n c) (.slice none 0 0)).run P w = .ok a.isNone w := fun d => by cases a <;> simp [Op.equalIn, run_underlying h]
  simp only [binOp]
  simp [Op.equal, Op.maxDepth, hh 9999]
theorem At.on {w w' : World} {A : Option Addr} {xs : List Value} (h : At w A xs) (hb : Below w.heap.size w w') : At w' A xs := by
  rcases h with rfl | ⟨b, off, rfl, hc⟩
  · exact .inl rfl
  · exact .inr ⟨b, off, rfl, fun i hi => (World.cell?_of_block (a := ⟨b, off + i, none⟩) (hb.block b (World.block_lt_of_cell? w _ (hc i hi)))).trans (hc i hi)⟩
end Go.Proofs.YtpfepcjbhchpcaaGreat
namespace Go.Proofs.YtpfepcjbhchpcaaGreat
open Go.RowKit
set_option maxRecDepth 100000
set_option linter.unusedSimpArgs false
set_option linter.unusedVariables false

def KeyD.v (k : KeyD) : Value := keyV k.a k.b k.c k.d k.e
def kC (k : KeyD) : List Dat := [.lit (.int .i64 k.a), .lit (.int .i64 k.b), .lit (.int .i64 k.c), .lit (.int .i64 k.d), .lit (.int .i64 k.e)]
def kX (k : KeyD) : List Value := [.int .i64 k.a, .int .i64 k.b, .int .i64 k.c, .int .i64 k.d, .int .i64 k.e]
theorem kC_len (k : KeyD) : (kC k).length = 5 := rfl
def keysD (l : List KeyD) : Dat := .row 58 5 l.length (l.flatMap kC)
def keysA (l : List KeyD) : Dat := .row 236 5 l.length (l.flatMap kC)
def kvl (l : List KeyD) : List Value := l.flatMap kX
theorem kvl_len (l : List KeyD) : (kvl l).length = l.length * 5 := by
  induction l with
  | nil => rfl
  | cons k l ih =>
    have : kvl (k :: l) = kX k ++ kvl l := rfl
    rw [this, List.length_append, ih]
    simp [kX, Nat.add_mul]; omega
theorem kvl_append (l m : List KeyD) : kvl (l ++ m) = kvl l ++ kvl m := by simp [kvl]
theorem kvl_one (k : KeyD) : kvl [k] = kX k := by simp [kvl]
theorem kvl_cells (l : List KeyD) : ∀ u ∈ kvl l, u.oneCell' = true := by
  intro u hu
  simp only [kvl, List.mem_flatMap, kX] at hu
  obtain ⟨k, _, hk⟩ := hu
  simp at hk
  rcases hk with rfl | rfl | rfl | rfl | rfl <;> rfl
theorem keys_len (l : List KeyD) : (l.flatMap kC).length = l.length * 5 := flat_len kC 5 l kC_len
theorem kC_map (l : List KeyD) : l.flatMap kC = (kvl l).map Dat.lit := by
  induction l with
  | nil => rfl
  | cons k l ih =>
    have : kvl (k :: l) = kX k ++ kvl l := rfl
    rw [this, List.map_append, ← ih]
    rfl
/-- The five cells from place o of block b on hold the key k. -/
abbrev Five (w : World) (b o : Nat) (k : KeyD) : Prop := w.cell? ⟨b, o, none⟩ = some (.int .i64 k.a) ∧ w.cell? ⟨b, o + 1, none⟩ = some (.int .i64 k.b) ∧ w.cell? ⟨b, o + 2, none⟩ = some (.int .i64 k.c) ∧ w.cell? ⟨b, o + 3, none⟩ = some (.int .i64 k.d) ∧ w.cell? ⟨b, o + 4, none⟩ = some (.int .i64 k.e)
theorem Five.keep {w w' : World} {b o : Nat} {k : KeyD} (h : Five w b o k) (hb : w'.heap[b]? = w.heap[b]?) : Five w' b o k := by
  obtain ⟨h0, h1, h2, h3, h4⟩ := h
  exact ⟨(World.cell?_of_block (a := ⟨b, o, none⟩) hb).trans h0, (World.cell?_of_block (a := ⟨b, o + 1, none⟩) hb).trans h1, (World.cell?_of_block (a := ⟨b, o + 2, none⟩) hb).trans h2, (World.cell?_of_block (a := ⟨b, o + 3, none⟩) hb).trans h3, (World.cell?_of_block (a := ⟨b, o + 4, none⟩) hb).trans h4⟩
theorem Reads.keys {w : World} {B : Nat} {A : Option Addr} {e n cap : Nat} {l : List KeyD} (h : Reads w B (.slice A n cap) (.row e 5 l.length (l.flatMap kC))) {i : Nat} (hi : i < l.length) :
    ∃ b off, A = some ⟨b, off, none⟩ ∧ b < B ∧ ∀ k (hk : k < l.length), Five w b (off + k * 5) l[k] := by
  obtain ⟨A', cap', hv, hn, hc, hl, _, k⟩ := h.row'
  cases hv
  rcases k with h | ⟨b, off, xs, rfl, hb, hx, hcell, hr⟩
  · have := congrArg List.length h
    rw [keys_len] at this; simp only [List.length_nil] at this; omega
  · refine ⟨b, off, rfl, hb, fun k hk => ?_⟩
    rw [keys_len] at hx
    have get : ∀ j, j < 5 → ∃ x c, w.cell? ⟨b, off + (k * 5 + j), none⟩ = some x ∧ (kC l[k])[j]? = some c ∧ Reads w B x c := by
      intro j hj
      have hlt := flat_lt (z := 5) hk hj
      have h1 := hr (k * 5 + j) (by omega) (by rw [keys_len]; omega)
      have h2 := hcell (k * 5 + j) (by omega)
      have h3 := flat_get kC 5 l kC_len k j hk hj
      rw [List.getElem?_eq_getElem (by rw [keys_len]; omega)] at h3
      exact ⟨_, _, h2, h3.symm, h1⟩
    obtain ⟨x0, c0, a0, b0, r0⟩ := get 0 (by omega)
    obtain ⟨x1, c1, a1, b1, r1⟩ := get 1 (by omega)
    obtain ⟨x2, c2, a2, b2, r2⟩ := get 2 (by omega)
    obtain ⟨x3, c3, a3, b3, r3⟩ := get 3 (by omega)
    obtain ⟨x4, c4, a4, b4, r4⟩ := get 4 (by omega)
    simp [kC] at b0 b1 b2 b3 b4
    subst b0 b1 b2 b3 b4
    cases r0
    cases r1
    cases r2
    cases r3
    cases r4
    exact ⟨a0, a1, a2, a3, a4⟩
theorem Reads.shapeK {w : World} {B : Nat} {v : Value} {e : TypeId} {l : List KeyD} (h : Reads w B v (.row e 5 l.length (l.flatMap kC))) : ∃ A cap, v = .slice A l.length cap ∧ l.length ≤ cap ∧ cap ≤ maxLen := by
  obtain ⟨A, cap, hv, hn, hc, _⟩ := h.row'
  exact ⟨A, cap, hv, hn, hc⟩
theorem lit_reads {w : World} {B : Nat} {xs vs : List Value} (hl : xs.length = vs.length) (h : ∀ i (h : i < xs.length) (h' : i < (vs.map Dat.lit).length), Reads w B xs[i] (vs.map Dat.lit)[i]) : xs = vs := by
  refine List.ext_getElem hl (fun i h1 h2 => ?_)
  have := h i h1 (by simpa using h2)
  rw [List.getElem_map] at this
  generalize xs[i] = x at this
  cases this
  rfl
theorem Reads.atK {w : World} {B : Nat} {A : Option Addr} {e n cap : Nat} {l : List KeyD} (h : Reads w B (.slice A n cap) (.row e 5 l.length (l.flatMap kC))) : At w A (kvl l) := by
  obtain ⟨A', cap', hv, hn, hc, hl, _, k⟩ := h.row'
  cases hv
  rcases k with h | ⟨b, off, xs, rfl, hb, hx, hcell, hr⟩
  · left
    have := congrArg List.length h
    rw [keys_len] at this
    exact List.length_eq_zero_iff.1 (by rw [kvl_len]; simpa using this)
  · right
    refine ⟨b, off, rfl, ?_⟩
    have : xs = kvl l := lit_reads (by rw [hx, keys_len, kvl_len]) (by rw [← kC_map]; exact hr)
    subst this
    exact hcell
/-- A row of keys of the call's own, nil or in a block from base on. -/
def RowK (w : World) (base : Nat) (v : Value) (l : List KeyD) : Prop := w.ownsRow base 58 5 v l.length (kvl l)
theorem lits_own (w : World) (S : Nat → Prop) (vs : List Value) : OwnsL w S vs (vs.map Dat.lit) :=
  ⟨by simp, fun _ _ => False, fun i h h' => by rw [List.getElem_map]; exact .lit _ _, fun _ _ h => h.elim, fun _ _ _ _ h => h.elim⟩
theorem RowK.owns {w : World} {base : Nat} {v : Value} {l : List KeyD} (h : RowK w base v l) : Owns w (fun b => base ≤ b) v (keysD l) := by
  refine row_owns (h : w.ownsRow _ _ _ _ _ _) ?_ (keys_len l)
  rw [kC_map]
  exact lits_own _ _ _
theorem Owns.rowK {w : World} {S : Nat → Prop} {v : Value} {l : List KeyD} (h : Owns w S v (keysD l)) {base : Nat} (hS : ∀ b, S b → base ≤ b) : RowK w base v l := by
  rcases h.row' with ⟨rfl, h, _⟩ | ⟨g, cap, cur, xs, rfl, hg, hh, hn, hc, hs, hl, hx, ho⟩
  · have : l = [] := List.length_eq_zero_iff.1 h
    subst this
    exact row_nil _ _ _ _
  · have hr := ho.reads
    rw [kC_map] at hr
    have : xs = kvl l := lit_reads (by rw [hr.1]; simp) hr.2
    subst this
    exact ⟨kvl_len l, .inr ⟨g, cap, cur, rfl, hS g hg, hh, hn, hc, hs, hx⟩⟩
theorem RowK.shape {w : World} {base : Nat} {v : Value} {l : List KeyD} (h : RowK w base v l) : ∃ A cap, v = .slice A l.length cap ∧ l.length ≤ cap ∧ cap ≤ maxLen := h.owns.reads.shapeK
theorem RowK.on {w w' : World} {base : Nat} {v : Value} {l : List KeyD} (h : RowK w base v l) (hb : Below w.heap.size w w') : RowK w' base v l := row_on (h : w.ownsRow _ _ _ _ _ _) hb
theorem RowK.keep {w w' : World} {base : Nat} {v : Value} {l : List KeyD} (h : RowK w base v l) (hk : ∀ g, v.ownBlock = some g → w'.heap[g]? = w.heap[g]?) : RowK w' base v l := row_keep (h : w.ownsRow _ _ _ _ _ _) hk
theorem RowK.lt {w : World} {base : Nat} {v : Value} {l : List KeyD} (h : RowK w base v l) : ∀ g, v.ownBlock = some g → g < w.heap.size ∧ base ≤ g := row_lt (h : w.ownsRow _ _ _ _ _ _)
theorem RowK.mono {w : World} {base base' : Nat} {v : Value} {l : List KeyD} (h : RowK w base v l) (hb : base' ≤ base) : RowK w base' v l := h.owns.rowK (fun b hb' => by omega)
/-- A store into a block ahead of the row's. -/
theorem RowK.set {w : World} {base g j : Nat} {v u : Value} {l : List KeyD} (h : RowK w base v l) (hg : g < base) : RowK (w.setCell ⟨g, j, none⟩ u) base v l := h.keep (fun k hk => Below.heap_setCell _ _ _ _ (by have := (h.lt k hk).2; simp; omega))
theorem key_info : (Tryz.prog.info? 58).map (fun i => (i.zero, i.size, i.bytes)) = some (some (.agg #[.int .i64 0, .int .i64 0, .int .i64 0, .int .i64 0, .int .i64 0]), 5, 40) := by kernel_rfl
theorem run_makeKeys (n m : Nat) (hn : n ≤ m) (hm : m ≤ 2097152) (w : World) :
    (Instr.makeSlice 54 (.int .i64 (n : Int)) (.int .i64 (m : Int))).run Tryz.prog w = .ok (.slice (some ⟨w.heap.size, 0, none⟩) n m) (w.alloc (.cells (madeCells #[.int .i64 0, .int .i64 0, .int .i64 0, .int .i64 0, .int .i64 0] (m * 5)) 58)) := by
  obtain ⟨i, hi, h0, h1, h2⟩ := info_parts key_info
  have hr := run_make (P := Tryz.prog) w 54 58 i (.agg #[.int .i64 0, .int .i64 0, .int .i64 0, .int .i64 0, .int .i64 0]) Tryz.underlying54 hi h0 .i64 .i64 n m (by omega) (by omega) (by rw [h2]; omega) (by omega)
  simp only [Int.toNat_natCast, h1] at hr
  exact hr
theorem RowK.made (w : World) (m : Nat) (hm : m ≤ 2097152) : RowK (w.alloc (.cells (madeCells #[.int .i64 0, .int .i64 0, .int .i64 0, .int .i64 0, .int .i64 0] (m * 5)) 58)) w.heap.size (.slice (some ⟨w.heap.size, 0, none⟩) 0 m) [] :=
  ⟨rfl, .inr ⟨w.heap.size, m, _, rfl, Nat.le_refl _, heap_alloc_new w _, Nat.zero_le _, by unfold maxLen; omega, by rw [size_madeCells], rfl⟩⟩
theorem RowK.lit (w : World) : RowK (w.alloc (.cells #[] 58)) w.heap.size (.slice (some ⟨w.heap.size, 0, none⟩) 0 0) [] := row_lit w 58 5
/-- append onto a row of the call's own. -/
theorem wpList_appK {ops : Array Oper} {rest : List Oper} {o : Oper} {a : Act} {Q : Exit → Act → World → Prop} (w : World) (hgd : o.guard = none) (s x : Operand)
    (hop : o.op = .call { callee := .builtin .append, args := #[s, x], argTypes := #[54, 54] })
    (base : Nat) (v : Value) (l : List KeyD) (hs : a.eval s = v) (hown : RowK w base v l) (A : Option Addr) (n c : Nat) (m : List KeyD) (hx : a.eval x = .slice A n c) (hmn : m.length = n) (hA : At w A (kvl m)) (hlen : l.length + m.length ≤ 1073741824) (hbase : base ≤ w.heap.size)
    (h : ∀ v' w', RowK w' base v' (l ++ m) → Below base w w' → wpList Tryz.prog ops Q rest (a.put o.dst v') w') : wpList Tryz.prog ops Q (o :: rest) a w := by
  subst hmn
  refine wpList_appV w hgd s x 54 58 5 40 (.agg #[.int .i64 0, .int .i64 0, .int .i64 0, .int .i64 0, .int .i64 0]) hop Tryz.underlying54 key_info rfl (by omega) (by omega) base l.length v (kvl l) hs hown A m.length c (kvl m) hx (kvl_len m) hA (kvl_cells m) hlen hbase ?_
  intro v' w' h2 h3 h4 h5
  refine h v' w' ?_ ?_
  · rw [← kvl_append, ← List.length_append] at h2
    exact h2
  · exact (Below.refl _ _).grown h3 hbase (fun k hk => (hown.lt k hk).2)
theorem At.key (w : World) (k : KeyD) (e : TypeId) : At (w.alloc (.cells #[.int .i64 k.a, .int .i64 k.b, .int .i64 k.c, .int .i64 k.d, .int .i64 k.e] e)) (some ⟨w.heap.size, 0, none⟩) (kvl [k]) := by
  refine .inr ⟨w.heap.size, 0, rfl, fun i hi => ?_⟩
  rw [cell_of_row _ _ _ _ _ _ (heap_alloc_new w _)]
  simp only [kvl_one, kX, List.length_cons, List.length_nil] at hi ⊢
  match i, hi with
  | 0, _ => rfl
  | 1, _ => rfl
  | 2, _ => rfl
  | 3, _ => rfl
  | 4, _ => rfl
/-- A call leaves a row of keys in memory of its own. -/
def NewK (w : World) (l : List KeyD) (e : Ending) (w' : World) : Prop := ∃ v, e = .returned v ∧ RowK w' w.heap.size v l ∧ Below w.heap.size w w'
end Go.Proofs.YtpfepcjbhchpcaaGreat
namespace Go.Proofs.YtpfepcjbhchpcaaGreat
open Go.RowKit Go.ChangeShapes Go.WideShapes Go.Deep
set_option maxRecDepth 100000
set_option linter.unusedSimpArgs false
set_option linter.unusedVariables false

theorem keys_opens : Opens Tryz.prog 221 (fun ds => ∃ l, ds = [keysA l]) := by
  have hk : Opens Tryz.prog 236 (fun ds => ∃ k : KeyD, ds = kC k) := key_opens.weaken (fun ds ⟨a, b, c, d, e, h⟩ => ⟨⟨a, b, c, d, e⟩, h⟩)
  exact (Opens.slice (z := 5) kC kC_len (by omega) Tryz.underlying221 (by kernel_rfl) hk 236).weaken (fun ds ⟨l, hl⟩ => ⟨l, hl⟩)
theorem RowV.key {w : World} {g n j : Nat} {e : TypeId} {l : List KeyD} (h : RowV w g (n * 5) e (kvl l)) (hj : l.length = j) (hk : j < n) (k : KeyD) :
    RowV (((((w.setCell ⟨g, j * 5, none⟩ (.int .i64 k.a)).setCell ⟨g, j * 5 + 1, none⟩ (.int .i64 k.b)).setCell ⟨g, j * 5 + 2, none⟩ (.int .i64 k.c)).setCell ⟨g, j * 5 + 3, none⟩ (.int .i64 k.d)).setCell ⟨g, j * 5 + 4, none⟩ (.int .i64 k.e)) g (n * 5) e (kvl (l ++ [k])) := by
  have hl := kvl_len l
  rw [hj] at hl
  have h1 := h.step (by omega) (.int .i64 k.a)
  have h2 := h1.step (by simp; omega) (.int .i64 k.b)
  have h3 := h2.step (by simp; omega) (.int .i64 k.c)
  have h4 := h3.step (by simp; omega) (.int .i64 k.d)
  have h5 := h4.step (by simp; omega) (.int .i64 k.e)
  simp only [List.length_append, List.length_singleton, hl, List.append_assoc] at h5
  rw [kvl_append, kvl_one]
  exact h5
theorem RowV.rowK {w : World} {g n : Nat} {l : List KeyD} (h : RowV w g (n * 5) 58 (kvl l)) (hl : l.length = n) (hn : n ≤ 2097152) : RowK w g (.slice (some ⟨g, 0, none⟩) n n) l := by
  obtain ⟨cur, hg, hs, hl2, ht⟩ := h
  subst hl
  refine ⟨kvl_len l, .inr ⟨g, l.length, cur, rfl, Nat.le_refl _, hg, Nat.le_refl _, by unfold maxLen; omega, hs, ?_⟩⟩
  rw [← kvl_len l]
  exact ht
theorem b5 {w w1 : World} {g i : Nat} {u1 u2 u3 u4 u5 : Value} {B : Nat} (h : Below B w w1) (hg : B ≤ g) : Below B w (((((w1.setCell ⟨g, i, none⟩ u1).setCell ⟨g, i + 1, none⟩ u2).setCell ⟨g, i + 2, none⟩ u3).setCell ⟨g, i + 3, none⟩ u4).setCell ⟨g, i + 4, none⟩ u5) :=
  ((((h.setCell (p := ⟨g, i, none⟩) hg _).setCell (p := ⟨g, i + 1, none⟩) hg _).setCell (p := ⟨g, i + 2, none⟩) hg _).setCell (p := ⟨g, i + 3, none⟩) hg _).setCell (p := ⟨g, i + 4, none⟩) hg _
theorem toKeyS_any (v : Value) (l : List KeyD) (w : World) (hv : Reads w w.heap.size v (keysA l)) (hn : l.length ≤ 1048576) : Calls Tryz.prog 220 #[v] w (NewK w l) := by
  obtain ⟨A, c, rfl, _, _⟩ := hv.shapeK
  have hmk := run_makeKeys l.length l.length (Nat.le_refl _) (by omega)
  have HT := Lib.hid toKey_any
  unfold SaysK keyV at HT
  go_enter Tryz.func220, Tryz.ntmps220
  go_wp2
  go_loopw [4] (fun i wr => ∃ k : Nat, k ≤ l.length ∧ i = .int .i64 k ∧ RowV wr w.heap.size (l.length * 5) 58 (kvl (l.take k)) ∧ Below w.heap.size w wr) (fun i _ => l.length - (intOf i).toNat)
  case atStart => exact ⟨0, Nat.zero_le _, rfl, by have h := RowV.new w (madeCells #[.int .i64 0, .int .i64 0, .int .i64 0, .int .i64 0, .int .i64 0] (l.length * 5)) 58; rw [size_madeCells] at h; exact h, (Below.refl _ _).alloc (Nat.le_refl _) _⟩
  case round =>
    obtain ⟨k, hk, rfl, hrow, hb⟩ := hrel
    by_cases hlt : k < l.length
    · obtain ⟨b, off, rfl, hbb, hc⟩ := (hv.on hb).keys hlt
      obtain ⟨c0, c1, c2, c3, c4⟩ := hc k hlt
      have HV := Lib.hid hv
      have hg := hrow.lt
      clear hc hv
      have i1 : (k : Int) < (l.length : Int) := by omega
      have i2 : (0 : Int) ≤ (k : Int) := by omega
      go_wp2_with fail
      refine (HT.out _ _ _ _ _ _).mono ?_
      rintro e w1 ⟨rfl, b1⟩
      have hrow1 := hrow.keep (b1.block _ hg)
      have hb1 := hb.trans (b1.mono hb.size)
      obtain ⟨y0, d0⟩ := hrow1.cell (k := k * 5) (by omega)
      obtain ⟨y1, d1⟩ := hrow1.cell (k := k * 5 + 1) (by omega)
      obtain ⟨y2, d2⟩ := hrow1.cell (k := k * 5 + 2) (by omega)
      obtain ⟨y3, d3⟩ := hrow1.cell (k := k * 5 + 3) (by omega)
      obtain ⟨y4, d4⟩ := hrow1.cell (k := k * 5 + 4) (by omega)
      have f0 := hrow1.frozen (k * 5)
      have f1 := hrow1.frozen (k * 5 + 1)
      have f2 := hrow1.frozen (k * 5 + 2)
      have f3 := hrow1.frozen (k * 5 + 3)
      have f4 := hrow1.frozen (k * 5 + 4)
      have HR := Lib.hid (hrow1.key (j := k) (by simp; omega) hlt l[k])
      have HB := Lib.hid (b5 (i := k * 5) (u1 := .int .i64 (l[k]).a) (u2 := .int .i64 (l[k]).b) (u3 := .int .i64 (l[k]).c) (u4 := .int .i64 (l[k]).d) (u5 := .int .i64 (l[k]).e) hb1 (Nat.le_refl w.heap.size))
      clear hrow hrow1 hb1 hb b1 c0 c1 c2 c3 c4
      go_wp2
      go_roundw
      case rel => exact ⟨k + 1, by omega, by go_num, by rw [List.take_succ_eq_append_getElem hlt]; exact HR.out, HB.out⟩
      case measure => simp [intOf]; omega
    · go_wp2
      go_ret
      have e : k = l.length := by omega
      subst e
      rw [List.take_length] at hrow
      exact ⟨_, rfl, hrow.rowK rfl (by omega), hb⟩
theorem szKeyS_any (A : Option Addr) (n c : Nat) (m : Int) (w : World) (hn : n ≤ maxLen) (h1 : 0 ≤ m) (h2 : m ≤ 1048576) :
    Calls Tryz.prog 219 #[.slice A n c, .int .i64 m] w fun e w' => w = w' ∧ ((e = .returned (.int .i64 (-1)) ∧ m < n) ∨ (e = .returned (.int .i64 (m - n)) ∧ n ≤ m)) := by
  unfold maxLen at hn
  by_cases h : m - (n : Int) < 0
  · go_enter Tryz.func219, Tryz.ntmps219
    go_wp2
    go_ret
    exact ⟨rfl, .inl ⟨rfl, by omega⟩⟩
  · go_enter Tryz.func219, Tryz.ntmps219
    go_wp2
    go_ret
    exact ⟨rfl, .inr ⟨rfl, by omega⟩⟩
theorem eqKey_sameK (a b c d e : Int) (w : World) : Calls Tryz.prog 248 #[keyV a b c d e, keyV a b c d e] w (SaysBool w true) := by
  unfold keyV
  go_enter Tryz.func248, Tryz.ntmps248
  go_wp2
  go_ret
  exact ⟨rfl, bal2 _ _ _⟩
theorem Five.on {w w' : World} {b o : Nat} {k : KeyD} (h : Five w b o k) (hlt : b < w.heap.size) (hb : Below w.heap.size w w') : Five w' b o k := h.keep (hb.block b hlt)
theorem Five.and {w : World} {b o : Nat} {k : KeyD} (h : Five w b o k) {P : Prop} (p : P) : w.cell? ⟨b, o, none⟩ = some (.int .i64 (k).a) ∧ w.cell? ⟨b, o + 1, none⟩ = some (.int .i64 (k).b) ∧ w.cell? ⟨b, o + 2, none⟩ = some (.int .i64 (k).c) ∧ w.cell? ⟨b, o + 3, none⟩ = some (.int .i64 (k).d) ∧ w.cell? ⟨b, o + 4, none⟩ = some (.int .i64 (k).e) ∧ P := ⟨h.1, h.2.1, h.2.2.1, h.2.2.2.1, h.2.2.2.2, p⟩
set_option maxHeartbeats 1000000 in
theorem eqKeyS_same (v u : Value) (l : List KeyD) (w : World) (hv : Reads w w.heap.size v (keysD l)) (hu : Reads w w.heap.size u (keysD l)) (hn : l.length ≤ 2097152) :
    Calls Tryz.prog 234 #[v, u] w (SaysBool w true) := by
  obtain ⟨A, c, rfl, _, _⟩ := hv.shapeK
  obtain ⟨A', c', rfl, _, _⟩ := hu.shapeK
  have HT := Lib.hid eqKey_sameK
  unfold keyV at HT
  have HV := Lib.hid hv
  have HU := Lib.hid hu
  clear hv hu
  have hne : (((l.length : Nat) : Int) != ((l.length : Nat) : Int)) = false := by simp
  go_enter Tryz.func234, Tryz.ntmps234
  go_wp2
  go_loopw [5] (fun i wr => ∃ k : Nat, k ≤ l.length ∧ i = .int .i64 k ∧ Below w.heap.size w wr) (fun i _ => l.length - (intOf i).toNat)
  case atStart => exact ⟨0, Nat.zero_le _, rfl, Below.refl _ _⟩
  case round =>
    obtain ⟨k, hk, rfl, hb⟩ := hrel
    by_cases hlt : k < l.length
    · obtain ⟨b, off, rfl, hbb, hc⟩ := (HV.out.on hb).keys hlt
      obtain ⟨b', off', rfl, hbb', hc'⟩ := (HU.out.on hb).keys hlt
      have F := Lib.hid (hc k hlt)
      have F' := Lib.hid (hc' k hlt)
      have i1 : (k : Int) < (l.length : Int) := by omega
      have i2 : (0 : Int) ≤ (k : Int) := by omega
      clear hc hc'
      obtain ⟨c0, c1, c2, c3, c4⟩ := F.out
      obtain ⟨d0, d1, d2, d3, d4⟩ := F'.out
      have HB := Lib.hid hb
      clear hb
      go_wp2
      go_region_held3 (fun W => W.cell? ⟨b, off + k * 5, none⟩ = some (.int .i64 (l[k]).a) ∧ W.cell? ⟨b, off + k * 5 + 1, none⟩ = some (.int .i64 (l[k]).b) ∧ W.cell? ⟨b, off + k * 5 + 2, none⟩ = some (.int .i64 (l[k]).c) ∧ W.cell? ⟨b, off + k * 5 + 3, none⟩ = some (.int .i64 (l[k]).d) ∧ W.cell? ⟨b, off + k * 5 + 4, none⟩ = some (.int .i64 (l[k]).e) ∧ W.cell? ⟨b', off' + k * 5, none⟩ = some (.int .i64 (l[k]).a) ∧ W.cell? ⟨b', off' + k * 5 + 1, none⟩ = some (.int .i64 (l[k]).b) ∧ W.cell? ⟨b', off' + k * 5 + 2, none⟩ = some (.int .i64 (l[k]).c) ∧ W.cell? ⟨b', off' + k * 5 + 3, none⟩ = some (.int .i64 (l[k]).d) ∧ W.cell? ⟨b', off' + k * 5 + 4, none⟩ = some (.int .i64 (l[k]).e))
        (first | with_reducible exact (F.out.on hbb B8).and (F'.out.on hbb' B8) | with_reducible exact (F.out.on hbb (Below.drew1 _)).and (F'.out.on hbb' (Below.drew1 _)) | exact F.out.and F'.out | fail)
        (first
          | (go_at_call 248; refine (HT.out _ _ _ _ _ _).mono ?_; rintro r w8 ⟨rfl, b8⟩; have B8 := bstep (Below.drew1 _) b8)
          | fail)
      all_goals
        have BC := Lib.hid (bstep HB.out B8)
        clear B8 b8 c0 c1 c2 c3 c4 d0 d1 d2 d3 d4
        go_wp2
        go_roundw
        case rel => exact ⟨k + 1, by omega, by go_num, BC.out⟩
        case measure => simp [intOf]; omega
    · go_wp2
      go_ret
      exact ⟨rfl, hb⟩
end Go.Proofs.YtpfepcjbhchpcaaGreat
namespace Go.Proofs.YtpfepcjbhchpcaaGreat
open Go.RowKit
set_option maxRecDepth 100000
set_option linter.unusedSimpArgs false
set_option linter.unusedVariables false

theorem kvl_cons (k : KeyD) (l : List KeyD) : kvl (k :: l) = kX k ++ kvl l := rfl
theorem kvl_set (l : List KeyD) (i : Nat) (k : KeyD) (h : i < l.length) : kvl (l.set i k) = (((((kvl l).set (i * 5) (.int .i64 k.a)).set (i * 5 + 1) (.int .i64 k.b)).set (i * 5 + 2) (.int .i64 k.c)).set (i * 5 + 3) (.int .i64 k.d)).set (i * 5 + 4) (.int .i64 k.e) := by
  induction l generalizing i with
  | nil => simp at h
  | cons x l ih =>
    cases i with
    | zero => simp [kvl_cons, kX]
    | succ i =>
      have h := ih i (by simpa using h)
      rw [List.set_cons_succ, kvl_cons, h, kvl_cons, show (i + 1) * 5 = i * 5 + 1 + 1 + 1 + 1 + 1 by omega]
      simp [kX]
/-- Block g of w holds the keys l in a row of room for cap. -/
def RwK (w : World) (g cap : Nat) (l : List KeyD) : Prop := Rw w g 58 5 l.length cap (kvl l)
theorem RwK.five {w : World} {g cap : Nat} {l : List KeyD} (h : RwK w g cap l) {i : Nat} (hi : i < l.length) : ∀ j, j < 5 → ∃ v, w.cell? ⟨g, i * 5 + j, none⟩ = some v := by
  intro j hj
  have hl := kvl_len l
  exact ⟨_, Rw.cell h (i := i * 5 + j) (by omega)⟩
theorem RwK.set {w : World} {g cap : Nat} {l : List KeyD} (h : RwK w g cap l) {i : Nat} (hi : i < l.length) (k : KeyD) : RwK (((((w.setCell ⟨g, i * 5, none⟩ (.int .i64 k.a)).setCell ⟨g, i * 5 + 1, none⟩ (.int .i64 k.b)).setCell ⟨g, i * 5 + 2, none⟩ (.int .i64 k.c)).setCell ⟨g, i * 5 + 3, none⟩ (.int .i64 k.d)).setCell ⟨g, i * 5 + 4, none⟩ (.int .i64 k.e)) g cap (l.set i k) := by
  have h5 := ((((Rw.set h (i * 5) (.int .i64 k.a)).set (i * 5 + 1) (.int .i64 k.b)).set (i * 5 + 2) (.int .i64 k.c)).set (i * 5 + 3) (.int .i64 k.d)).set (i * 5 + 4) (.int .i64 k.e)
  unfold RwK
  rw [List.length_set, kvl_set l i k hi]
  exact h5
theorem RwK.owns {w : World} {S : Nat → Prop} {g cap : Nat} {l : List KeyD} (h : RwK w g cap l) (hS : S g) (hn : l.length ≤ cap) (hc : cap ≤ maxLen) : Owns w S (.slice (some ⟨g, 0, none⟩) l.length cap) (keysD l) :=
  Rw.owns h hS (by rw [kC_map]; exact lits_own _ _ _) hn hc (keys_len l)
theorem Owns.rwK {w : World} {S : Nat → Prop} {v : Value} {l : List KeyD} (h : Owns w S v (keysD l)) : (v = .slice none 0 0 ∧ l = []) ∨ ∃ g cap, v = .slice (some ⟨g, 0, none⟩) l.length cap ∧ S g ∧ RwK w g cap l ∧ l.length ≤ cap ∧ cap ≤ maxLen := by
  rcases h.rw' with ⟨rfl, h, _⟩ | ⟨g, cap, xs, rfl, hS, hR, hn, hc, hl, hx, ho⟩
  · exact .inl ⟨rfl, List.length_eq_zero_iff.1 h⟩
  · have hr := ho.reads
    rw [kC_map] at hr
    have : xs = kvl l := lit_reads (by rw [hr.1]; simp) hr.2
    subst this
    exact .inr ⟨g, cap, rfl, hS, hR, hn, hc⟩
theorem o5 {S : Nat → Prop} {w w1 : World} {g i : Nat} {u1 u2 u3 u4 u5 : Value} (h : Only S w w1) (hg : S g) : Only S w (((((w1.setCell ⟨g, i, none⟩ u1).setCell ⟨g, i + 1, none⟩ u2).setCell ⟨g, i + 2, none⟩ u3).setCell ⟨g, i + 3, none⟩ u4).setCell ⟨g, i + 4, none⟩ u5) :=
  ((((h.setCell hg _).setCell hg _).setCell hg _).setCell hg _).setCell hg _
end Go.Proofs.YtpfepcjbhchpcaaGreat
namespace Go.Proofs.YtpfepcjbhchpcaaGreat
open Go.RowKit Go.ChangeShapes Go.WideShapes Go.Deep
set_option maxRecDepth 100000
set_option linter.unusedSimpArgs false
set_option linter.unusedVariables false

def setsD (ns : List (List KeyD)) : Dat := .row 54 1 ns.length (ns.map keysD)
def setsA (ns : List (List KeyD)) : Dat := .row 221 1 ns.length (ns.map keysA)
/-- How many keys the sets hold. -/
def sumN (ns : List (List KeyD)) : Nat := (ns.map List.length).sum
theorem sumN_nil : sumN [] = 0 := rfl
theorem sumN_cons (l : List KeyD) (ns : List (List KeyD)) : sumN (l :: ns) = l.length + sumN ns := by simp [sumN]
theorem sumN_append (a b : List (List KeyD)) : sumN (a ++ b) = sumN a + sumN b := by simp [sumN]
theorem sumN_mem {l : List KeyD} {ns : List (List KeyD)} (h : l ∈ ns) : l.length ≤ sumN ns := by
  induction ns with
  | nil => simp at h
  | cons a ns ih =>
    rw [sumN_cons]
    rcases List.mem_cons.1 h with rfl | h
    · omega
    · have := ih h; omega
theorem sumN_take {ns : List (List KeyD)} {k : Nat} (h : k < ns.length) : sumN (ns.take (k + 1)) = sumN (ns.take k) + (ns[k]).length := by
  rw [List.take_succ_eq_append_getElem h, sumN_append, sumN_cons, sumN_nil]; omega
theorem sumN_take_le (ns : List (List KeyD)) (k : Nat) : sumN (ns.take k) ≤ sumN ns := by
  have h := sumN_append (ns.take k) (ns.drop k)
  rw [List.take_append_drop] at h
  omega
def SmallN (ns : List (List KeyD)) : Prop := ns.length ≤ 1100000 ∧ sumN ns ≤ 1100000
theorem SmallN.at {ns : List (List KeyD)} (h : SmallN ns) {k : Nat} (hk : k < ns.length) : (ns[k]).length ≤ 1100000 := Nat.le_trans (sumN_mem (List.getElem_mem hk)) h.2
/-- A row of sets, its elements one by one. -/
theorem Reads.set {w : World} {B : Nat} {A : Option Addr} {e e2 n cap : Nat} {ns : List (List KeyD)} (h : Reads w B (.slice A n cap) (.row e 1 ns.length (ns.map fun l => .row e2 5 l.length (l.flatMap kC)))) {i : Nat} (hi : i < ns.length) :
    ∃ b off, A = some ⟨b, off, none⟩ ∧ b < B ∧ ∀ k (hk : k < ns.length), ∃ A2 c2, w.cell? ⟨b, off + k, none⟩ = some (.slice A2 (ns[k]).length c2) ∧ (ns[k]).length ≤ c2 ∧ c2 ≤ maxLen ∧ Reads w B (.slice A2 (ns[k]).length c2) (.row e2 5 (ns[k]).length ((ns[k]).flatMap kC)) := by
  obtain ⟨A', cap', hv, hn, hc, hl, _, k⟩ := h.row'
  cases hv
  rcases k with h | ⟨b, off, xs, rfl, hb, hx, hcell, hr⟩
  · simp at h; subst h; simp at hi
  · refine ⟨b, off, rfl, hb, fun k hk => ?_⟩
    have hx' : xs.length = ns.length := by simpa using hx
    have h1 := hr k (by omega) (by simpa using hk)
    rw [List.getElem_map] at h1
    have h2 := hcell k (by omega)
    generalize xs[k] = x at h1 h2
    obtain ⟨A2, c2, rfl, h3, h4⟩ := h1.shapeK
    exact ⟨A2, c2, h2, h3, h4, h1⟩
theorem Reads.lenN {w : World} {B : Nat} {v : Value} {e z n : Nat} {cs : List Dat} (h : Reads w B v (.row e z n cs)) : ∃ A cap, v = .slice A n cap ∧ n ≤ cap ∧ cap ≤ maxLen := by
  obtain ⟨A, cap, hv, hn, hc, _⟩ := h.row'
  exact ⟨A, cap, hv, hn, hc⟩
theorem box1N {w : World} {p : Nat} {a : Value} {t : TypeId} (h : w.heap[p]? = some (.cells #[a] t (0, 0))) : w.cell? ⟨p, 0, none⟩ = some a ∧ ∀ o, w.frozen? ⟨p, o, none⟩ = false :=
  ⟨by rw [cell_of_row w p 0 _ _ _ h]; rfl, fun o => frozen_of_row w p o _ _ h⟩
/-- A call leaves a node in memory of its own. -/
def NewN (w : World) (ns : List (List KeyD)) (e : Ending) (w' : World) : Prop := ∃ v, e = .returned (.agg #[v]) ∧ Owns w' (fun b => w.heap.size ≤ b) v (setsD ns) ∧ Below w.heap.size w w'
/-- The same of a bare slice of sets. -/
def NewS (w : World) (ns : List (List KeyD)) (e : Ending) (w' : World) : Prop := ∃ v, e = .returned v ∧ Owns w' (fun b => w.heap.size ≤ b) v (setsD ns) ∧ Below w.heap.size w w'
theorem ks_info : (Tryz.prog.info? 54).map (fun i => (i.zero, i.size, i.bytes)) = some (some (.slice none 0 0), 1, 24) := by kernel_rfl
theorem run_makeSets (n : Nat) (hn : n ≤ 1100000) (w : World) :
    (Instr.makeSlice 95 (.int .i64 (n : Int)) (.int .i64 (n : Int))).run Tryz.prog w = .ok (.slice (some ⟨w.heap.size, 0, none⟩) n n) (w.alloc (.cells (madeCells #[.slice none 0 0] n) 54)) := by
  obtain ⟨i, hi, h0, h1, h2⟩ := info_parts ks_info
  have hr := run_make (P := Tryz.prog) w 95 54 i (.slice none 0 0) Tryz.underlying95 hi h0 .i64 .i64 n n (by omega) (by omega) (by rw [h2]; omega) (by omega)
  simp only [Int.toNat_natCast, h1, Nat.mul_one] at hr
  exact hr
theorem made1N (z : Value) (n : Nat) : (madeCells #[z] n).size = n * 1 := by simp [size_madeCells]
set_option maxHeartbeats 1000000 in
theorem szKeySS_any (v : Value) (ns : List (List KeyD)) (m : Int) (w : World) (hv : Reads w w.heap.size v (setsA ns)) (h1 : 0 ≤ m) (h2 : m ≤ 1048576) :
    Calls Tryz.prog 175 #[v, .int .i64 m] w fun e w' => w = w' ∧ ((e = .returned (.int .i64 (-1)) ∧ m < (ns.length + sumN ns : Nat)) ∨ (e = .returned (.int .i64 (m - (ns.length + sumN ns : Nat))) ∧ ((ns.length + sumN ns : Nat) : Int) ≤ m)) := by
  obtain ⟨A, c, rfl, hc1, hc2⟩ := hv.lenN
  unfold maxLen at hc2
  have HV := Lib.hid hv
  clear hv
  by_cases h : m - (ns.length : Int) < 0
  · go_enter Tryz.func175, Tryz.ntmps175
    go_wp2
    go_ret
    exact ⟨rfl, .inl ⟨rfl, by omega⟩⟩
  · have d0 : decide (m - (ns.length : Int) < 0) = false := decide_eq_false h
    go_enter Tryz.func175, Tryz.ntmps175
    go_wp2
    go_loopw [1, 5] (fun q i wr => ∃ j : Nat, j ≤ ns.length ∧ i = .int .i64 j ∧ q = .int .i64 (m - (ns.length + sumN (ns.take j) : Nat)) ∧ ((ns.length + sumN (ns.take j) : Nat) : Int) ≤ m ∧ w = wr) (fun _ i _ => ns.length - (intOf i).toNat)
    case atStart => exact ⟨0, Nat.zero_le _, rfl, by simp [sumN], by simp [sumN]; omega, rfl⟩
    case round =>
      clear d0 h
      obtain ⟨j, hj, rfl, rfl, hle, rfl⟩ := hrel
      by_cases hlt : j < ns.length
      · obtain ⟨b, off, rfl, hbb, hc⟩ := HV.out.set hlt
        obtain ⟨A1, d1, c1, hx1, hx2, _⟩ := hc j hlt
        have T1 := Lib.hid (sumN_take hlt)
        have T2 := Lib.hid (sumN_take_le ns (j + 1))
        have i1 : (j : Int) < (ns.length : Int) := by omega
        have i2 : (0 : Int) ≤ (j : Int) := by omega
        generalize hq : m - ((ns.length + sumN (ns.take j) : Nat) : Int) = q
        have q0 : 0 ≤ q := by omega
        have q1 : q ≤ 1048576 := by omega
        have HQ := Lib.hid hq
        have HL := Lib.hid hle
        clear hc hq hle
        go_wp2_with fail
        refine (szKeyS_any A1 (ns[j]).length d1 q _ (by omega) q0 q1).mono ?_
        rintro e w1 ⟨rfl, (⟨rfl, h3⟩ | ⟨rfl, h3⟩)⟩
        · go_wp2
          go_ret
          refine ⟨rfl, .inl ⟨rfl, ?_⟩⟩
          have := HQ.out; have := T1.out; have := T2.out; omega
        · have d2 : decide (q - ((ns[j]).length : Int) < 0) = false := decide_eq_false (by omega)
          go_wp2
          go_roundw
          case rel =>
            refine ⟨j + 1, by omega, by go_num, ?_, ?_, trivial⟩
            · congr 1; have := HQ.out; have := T1.out; omega
            · have := HQ.out; have := T1.out; omega
          case measure => simp [intOf]; omega
      · go_wp2
        go_ret
        have e : j = ns.length := by omega
        subst e
        have hh : sumN (ns.take ns.length) = sumN ns := by rw [List.take_length]
        rw [hh] at hle
        exact ⟨rfl, .inr ⟨by rw [hh]; rfl, hle⟩⟩
theorem szNode_any (v : Value) (ns : List (List KeyD)) (w : World) (hv : Reads w w.heap.size v (setsA ns)) (m : Int) (h1 : 0 ≤ m) (h2 : m ≤ 1048576) :
    Calls Tryz.prog 118 #[.agg #[v], .int .i64 m] w fun e w' => Below w.heap.size w w' ∧ ((e = .returned (.int .i64 (-1)) ∧ m < (ns.length + sumN ns : Nat)) ∨ (e = .returned (.int .i64 (m - (ns.length + sumN ns : Nat))) ∧ ((ns.length + sumN ns : Nat) : Int) ≤ m)) := by
  have HS := Lib.hid (fun W b => szKeySS_any v ns m W (hv.on b) h1 h2)
  obtain ⟨A, c, rfl, hc1, hc2⟩ := hv.lenN
  have HB := Lib.hid (bal1 w (.cells #[.slice A ns.length c] 151))
  clear hv
  go_enter Tryz.func118, Tryz.ntmps118
  go_wp2_with fail
  refine (HS.out _ HB.out).mono ?_
  rintro e w1 ⟨rfl, (⟨rfl, h3⟩ | ⟨rfl, h3⟩)⟩
  · go_wp2
    go_ret
    exact ⟨HB.out, .inl ⟨rfl, h3⟩⟩
  · generalize hq : m - ((ns.length + sumN ns : Nat) : Int) = q
    have d2 : decide (q < 0) = false := decide_eq_false (by omega)
    go_wp2
    go_ret
    exact ⟨HB.out, .inr ⟨by rw [hq]; rfl, h3⟩⟩
theorem toKeySS_any (v : Value) (ns : List (List KeyD)) (w : World) (hv : Reads w w.heap.size v (setsA ns)) (hn : ns.length + sumN ns ≤ 1048576) :
    Calls Tryz.prog 180 #[v] w (NewS w ns) := by
  obtain ⟨A, c, rfl, _, _⟩ := hv.lenN
  have hmk := run_makeSets ns.length (by omega)
  have HV := Lib.hid hv
  clear hv
  go_enter Tryz.func180, Tryz.ntmps180
  go_wp2
  go_loopw [4] (fun i wr => ∃ (k : Nat) (xs : List Value), k ≤ ns.length ∧ i = .int .i64 k ∧ RowV wr w.heap.size (ns.length * 1) 54 xs ∧ OwnsL wr (fun b => w.heap.size < b) xs ((ns.take k).map keysD) ∧ Below w.heap.size w wr) (fun i _ => ns.length - (intOf i).toNat)
  case atStart => exact ⟨0, [], Nat.zero_le _, rfl, by rw [← made1N (.slice none 0 0)]; exact RowV.new w _ _, OwnsL.nil _ _, (Below.refl _ _).alloc (Nat.le_refl _) _⟩
  case round =>
    obtain ⟨k, xs, hk, rfl, hrow, hown, hb⟩ := hrel
    by_cases hlt : k < ns.length
    · obtain ⟨b, off, rfl, hbb, hc⟩ := (HV.out.on hb).set hlt
      obtain ⟨A1, d1, c1, _, _, r1⟩ := hc k hlt
      have hl := sumN_mem (List.getElem_mem hlt)
      have HX : Hid (xs.length = k) := Lib.hid (by rw [hown.1]; simp; omega)
      have hg := hrow.lt
      have R1 := Lib.hid r1
      clear hc r1
      have i1 : (k : Int) < (ns.length : Int) := by omega
      have i2 : (0 : Int) ≤ (k : Int) := by omega
      go_wp2_with fail
      refine (toKeyS_any _ ns[k] _ R1.out (by omega)).mono ?_
      rintro e w1 ⟨vv, rfl, o1, b1⟩
      obtain ⟨Av, cv, rfl, _, _⟩ := o1.shape
      have o2 := o1.owns
      have hrow1 := hrow.keep (b1.block _ hg)
      have hb1 := hb.trans (b1.mono hb.size)
      obtain ⟨y, c2⟩ := hrow1.cell (k := k) (by omega)
      have f2 := hrow1.frozen k
      have HR := Lib.hid (hrow1.step (by rw [HX.out]; omega) (.slice Av (ns[k]).length cv))
      have HO := Lib.hid (OwnsL.push (j := k) (u := .slice Av (ns[k]).length cv) hown b1 o2 hg)
      have HB := Lib.hid (hb1.setCell (p := ⟨w.heap.size, k, none⟩) (Nat.le_refl _) (.slice Av (ns[k]).length cv))
      clear hrow hrow1 hown hb1 hb o1 o2 b1
      go_wp2
      go_roundw
      case rel =>
        refine ⟨k + 1, xs ++ [.slice Av (ns[k]).length cv], by omega, by go_num, ?_, ?_, HB.out⟩
        · have h := HR.out
          rw [HX.out] at h
          exact h
        · have h := HO.out
          rw [List.take_succ_eq_append_getElem hlt, List.map_append]
          exact h
      case measure => simp [intOf]; omega
    · go_wp2
      go_ret
      have e : k = ns.length := by omega
      subst e
      rw [List.take_length] at hown
      exact ⟨_, rfl, hrow.owns hown (by simp) (by unfold maxLen; omega), hb⟩
theorem toNode_any (v : Value) (ns : List (List KeyD)) (w : World) (hv : Reads w w.heap.size v (setsA ns)) (hn : ns.length + sumN ns ≤ 1048576) :
    Calls Tryz.prog 129 #[.agg #[v]] w (NewN w ns) := by
  have HS := Lib.hid (fun W b => toKeySS_any v ns W (hv.on b) hn)
  obtain ⟨A, c, rfl, hc1, hc2⟩ := hv.lenN
  have HB := Lib.hid (bal3 w (.cells #[.slice A ns.length c] 151) (.cells #[.slice none 0 0] 97) (.cells #[.slice none 0 0] 97))
  clear hv
  go_enter Tryz.func129, Tryz.ntmps129
  go_wp2_with fail
  refine (HS.out _ HB.out).mono ?_
  rintro e w1 ⟨vv, rfl, o1, b1⟩
  obtain ⟨Av, cv, rfl, _, _⟩ := o1.reads.lenN
  have hb1 := bstep HB.out b1
  obtain ⟨k1, k2⟩ := bcell b1
  have hz := b1.size
  simp at hz
  have o2 : Owns w1 (fun b => w.heap.size + 3 ≤ b) (.slice Av ns.length cv) (setsD ns) := by
    simp only [World.size_alloc] at o1
    exact o1
  go_wp2
  have HO : ∀ u1 u2, Only (Mid w.heap.size (w.heap.size + 3)) w1 ((w1.setCell ⟨w.heap.size + 1 + 1, 0, none⟩ u1).setCell ⟨w.heap.size + 1, 0, none⟩ u2) := fun u1 u2 => ((Only.refl _ _).setCell (.mk (by omega) (by omega)) _).setCell (.mk (by omega) (by omega)) _
  exact bodyPost_ret (v := .agg #[.slice Av ns.length cv]) (by simp [results, Tryz.results129, go_sem, k1]) rfl ⟨_, rfl, o2.past (HO _ _) (by omega), bpast hb1 (HO _ _)⟩
end Go.Proofs.YtpfepcjbhchpcaaGreat
namespace Go.Proofs.YtpfepcjbhchpcaaGreat
open Go.RowKit Go.ChangeShapes Go.WideShapes Go.Deep
set_option maxRecDepth 100000
set_option linter.unusedSimpArgs false
set_option linter.unusedVariables false

theorem sets_opens : Opens Tryz.prog 149 (fun ds => ∃ ns, ds = [setsA ns]) := by
  have h := Opens.slice (z := 1) (fun l : List KeyD => [keysA l]) (fun _ => rfl) (by omega) Tryz.underlying149 (by kernel_rfl) keys_opens 221
  refine h.weaken (fun ds ⟨l, hl⟩ => ⟨l, ?_⟩)
  rw [hl, setsA, flat_one]
theorem node_opens : Opens Tryz.prog 151 (fun ds => ∃ ns, ds = [setsA ns]) := by
  have h := Opens.struct (P := Tryz.prog) Tryz.underlying151 (by kernel_rfl) [fun ds => ∃ ns, ds = [setsA ns]] rfl (fun i hi => by
    match i, hi with
    | 0, _ => exact sets_opens)
  refine h.weaken (fun ds ⟨dss, hd, hC, hds⟩ => ?_)
  match dss, hd with
  | [a], _ =>
    obtain ⟨ns, h0⟩ := hC 0 (by simp)
    simp at h0
    subst h0
    exact ⟨ns, by rw [hds]; rfl⟩
set_option maxHeartbeats 1000000 in
theorem eqKeySS_same (v u : Value) (ns : List (List KeyD)) (w : World) (hv : Reads w w.heap.size v (setsD ns)) (hu : Reads w w.heap.size u (setsD ns)) (hs : SmallN ns) :
    Calls Tryz.prog 205 #[v, u] w (SaysBool w true) := by
  obtain ⟨A, c, rfl, _, _⟩ := hv.lenN
  obtain ⟨A', c', rfl, _, _⟩ := hu.lenN
  have hne : ((ns.length : Int) != (ns.length : Int)) = false := by simp
  have HS := Lib.hid hs
  have hn := hs.1
  have HV := Lib.hid hv
  have HU := Lib.hid hu
  clear hv hu hs
  go_enter Tryz.func205, Tryz.ntmps205
  go_wp2
  go_loopw [5] (fun i wr => ∃ k : Nat, k ≤ ns.length ∧ i = .int .i64 k ∧ Hid (Below w.heap.size w wr)) (fun i _ => ns.length - (intOf i).toNat)
  case atStart => exact ⟨0, Nat.zero_le _, rfl, Lib.hid (Below.refl _ _)⟩
  case round =>
    obtain ⟨k, hk, rfl, HB⟩ := hrel
    by_cases hlt : k < ns.length
    · obtain ⟨b, off, rfl, hbb, hc⟩ := (HV.out.on HB.out).set hlt
      obtain ⟨b2, off2, rfl, hbb2, hc2⟩ := (HU.out.on HB.out).set hlt
      obtain ⟨A1, d1, c1, _, _, r1⟩ := hc k hlt
      obtain ⟨A2, d2, c2, _, _, r2⟩ := hc2 k hlt
      have hl := HS.out.at hlt
      have R1 := Lib.hid r1
      have R2 := Lib.hid r2
      clear hc hc2 r1 r2
      have i1 : (k : Int) < (ns.length : Int) := by omega
      have i2 : (0 : Int) ≤ (k : Int) := by omega
      go_wp2
      go_still_tail 8, (by kernel_rfl)
      change wpList _ _ _ _ _ wr.drew
      have HB1 := Lib.hid (bstep HB.out (Below.drew1 _))
      have Q1 := Lib.hid (R1.out.on (Below.drew1 _))
      have Q2 := Lib.hid (R2.out.on (Below.drew1 _))
      clear R1 R2
      generalize wr.drew = wd at *
      go_wp2_with fail
      refine (eqKeyS_same _ _ ns[k] _ Q1.out Q2.out (by omega)).mono ?_
      rintro e w2 ⟨rfl, b2⟩
      have HB2 := Lib.hid (bstep HB1.out b2)
      clear b2
      go_wp2
      go_roundw
      case rel => exact ⟨k + 1, by omega, by go_num, HB2⟩
      case measure => simp [intOf]; omega
    · go_wp2
      go_ret
      exact ⟨rfl, HB.out⟩
theorem eqNode_same (v u : Value) (ns : List (List KeyD)) (w : World) (hv : Reads w w.heap.size v (setsD ns)) (hu : Reads w w.heap.size u (setsD ns)) (hs : SmallN ns) :
    Calls Tryz.prog 157 #[.agg #[v], .agg #[u]] w (SaysBool w true) := by
  have HE := Lib.hid (fun W b => eqKeySS_same v u ns W (hv.on b) (hu.on b) hs)
  obtain ⟨A, c, rfl, _, _⟩ := hv.lenN
  obtain ⟨A', c', rfl, _, _⟩ := hu.lenN
  have HB := Lib.hid (bal2 w (.cells #[.slice A ns.length c] 97) (.cells #[.slice A' ns.length c'] 97))
  clear hv hu
  go_enter Tryz.func157, Tryz.ntmps157
  go_wp2_with fail
  refine (HE.out _ HB.out).mono ?_
  rintro e w1 ⟨rfl, b1⟩
  have B1 := bstep HB.out b1
  clear b1
  go_wp2
  go_ret
  exact ⟨rfl, B1⟩
end Go.Proofs.YtpfepcjbhchpcaaGreat
namespace Go.Proofs.YtpfepcjbhchpcaaGreat
open Go.RowKit
set_option maxRecDepth 100000
set_option linter.unusedSimpArgs false
set_option linter.unusedVariables false

def Dat.one : Dat → Bool
  | .lit u => u.oneCell'
  | .row _ _ _ _ => true
theorem Reads.one {w : World} {B : Nat} {v : Value} {c : Dat} (h : Reads w B v c) (hc : c.one = true) : v.oneCell' = true := by
  cases h with
  | lit u => exact hc
  | nil A cap e z h => rfl
  | row b off n cap e z xs cs hb hn hc hl hx hcell hr => rfl
theorem ReadsL.ones {w : World} {B : Nat} {vs : List Value} {cs : List Dat} (h : ReadsL w B vs cs) (hc : ∀ c ∈ cs, c.one = true) : ∀ u ∈ vs, u.oneCell' = true := by
  intro u hu
  obtain ⟨i, hi, rfl⟩ := List.getElem_of_mem hu
  exact (h.2 i hi (by rw [← h.1]; exact hi)).one (hc _ (List.getElem_mem _))
theorem Reads.cells {w : World} {B : Nat} {A : Option Addr} {n m c : Nat} {e z : Nat} {cs : List Dat} (h : Reads w B (.slice A m c) (.row e z n cs)) : ∃ xs, At w A xs ∧ ReadsL w B xs cs ∧ xs.length = n * z := by
  obtain ⟨A', cap', hv, hn, hc, hl, _, k⟩ := h.row'
  cases hv
  rcases k with rfl | ⟨b, off, xs, rfl, hb, hx, hcell, hr⟩
  · exact ⟨[], .inl rfl, ⟨rfl, fun i h => by simp at h⟩, by simpa using hl⟩
  · exact ⟨xs, .inr ⟨b, off, rfl, hcell⟩, ⟨hx, hr⟩, hx.trans hl⟩
/-- A cell of a row of the call's own is written. -/
theorem row_set {w : World} {base e z n g cap : Nat} {xs : List Value} (h : w.ownsRow base e z (.slice (some ⟨g, 0, none⟩) n cap) n xs) (i : Nat) (x : Value) : (w.setCell ⟨g, i, none⟩ x).ownsRow base e z (.slice (some ⟨g, 0, none⟩) n cap) n (xs.set i x) := by
  rcases row_cases h with ⟨hv, _⟩ | ⟨g', cap', hv, hb, hR, hn, hc, hl⟩
  · cases hv
  · cases hv
    exact (hR.set i x).row hb hn hc (by simpa using hl)
theorem own_push {wr w1 : World} {T : Nat → Prop} {base g j : Nat} {xs : List Value} {cs : List Dat} {v u : Value} {c : Dat} (h : OwnsL wr T xs cs) (hT1 : ∀ b, base ≤ b → b ≠ g → T b) (hT2 : ∀ b, T b → b ≠ g) (hb : Below wr.heap.size wr w1) (hv : Owns w1 (fun b => wr.heap.size ≤ b) v c) (hg : g < wr.heap.size) (hbase : base ≤ wr.heap.size) :
    OwnsL (w1.setCell ⟨g, j, none⟩ u) T (xs ++ [v]) (cs ++ [c]) := by
  have h1 : OwnsL w1 (fun b => T b ∧ b < wr.heap.size) xs cs := h.lt.on hb
  have h2 := h1.snoc hv (U := T) (fun b hb => hb.1) (fun b hb => hT1 b (by omega) (by omega)) (fun b hb hb' => by have := hb.2; omega)
  exact h2.keep (fun b hb _ => Below.heap_setCell _ _ _ _ (by simpa using hT2 b hb))
theorem take_set_succ {α : Type} (xs : List α) (k : Nat) (x : α) (h : k < xs.length) : (xs.set k x).take (k + 1) = xs.take k ++ [x] := by
  rw [List.take_succ_eq_append_getElem (by simpa using h)]
  simp [List.take_set_of_le]
/-- The blocks of a row's cells: made by the call, and not the row's own. -/
def Tof (base : Nat) (u : Value) : Nat → Prop := fun b => base ≤ b ∧ u.ownBlock ≠ some b
def CopyIn (w : World) (base : Nat) (p : Nat) (bx : Obj) (u : Value) (e z n k : Nat) (xs : List Value) (cs : List Dat) (wr : World) : Prop :=
  ∃ ys : List Value, wr.ownsRow base e z u n ys ∧ OwnsL wr (Tof base u) (ys.take k) (cs.take k) ∧ (∀ j, k ≤ j → ys[j]? = xs[j]?) ∧ wr.heap[p]? = some bx ∧ Below w.heap.size w wr
theorem CopyIn.step {w wr w2 : World} {base p g cap : Nat} {bx : Obj} {e n k : Nat} {xs zs : List Value} {cs : List Dat} {x : Value} {c : Dat} (ho : wr.ownsRow base e 1 (.slice (some ⟨g, 0, none⟩) n cap) n zs) (hown : OwnsL wr (Tof base (.slice (some ⟨g, 0, none⟩) n cap)) (zs.take k) (cs.take k)) (ht : ∀ j, k ≤ j → zs[j]? = xs[j]?) (hbx : wr.heap[p]? = some bx) (hb : Below w.heap.size w wr)
    (b2 : Below wr.heap.size wr w2) (ox : Owns w2 (fun b => wr.heap.size ≤ b) x c) (hg : g < wr.heap.size) (hbase : base ≤ g) (hp : p ≠ g) (hwg : w.heap.size ≤ g) (hkn : k < n) (hk : k < cs.length) (hc : cs[k] = c) :
    CopyIn w base p bx (.slice (some ⟨g, 0, none⟩) n cap) e 1 n (k + 1) xs cs (w2.setCell ⟨g, k, none⟩ x) := by
  have hzl : zs.length = n * 1 := ho.1
  refine ⟨zs.set k x, row_set (row_on ho b2) k x, ?_, ?_, box_far (box_on hbx b2) hp, (hb.trans (b2.mono hb.size)).setCell hwg x⟩
  · rw [take_set_succ zs k x (by omega), List.take_succ_eq_append_getElem hk, hc]
    refine own_push (base := base) hown (fun b h1 h2 => ⟨h1, fun h => h2 (by simp [Value.ownBlock] at h; exact h.symm)⟩) (fun b h1 h2 => h1.2 (by rw [h2]; rfl)) b2 ox hg (by omega)
  · intro j hj
    rw [List.getElem?_set_ne (by omega)]
    exact ht j (by omega)
end Go.Proofs.YtpfepcjbhchpcaaGreat
namespace Go.Proofs.YtpfepcjbhchpcaaGreat
open Go.RowKit Go.ChangeShapes Go.WideShapes Go.Deep
set_option maxRecDepth 100000
set_option linter.unusedSimpArgs false
set_option linter.unusedVariables false

abbrev NodeD := List (List KeyD)
def iV (n : Int) : Value := .int .i64 n
def intsD (l : List Int) : Dat := .row 3 1 l.length (l.map fun n => .lit (iV n))
def nodesD (ts : List NodeD) : Dat := .row 97 1 ts.length (ts.map setsD)
def nodesA (ts : List NodeD) : Dat := .row 151 1 ts.length (ts.map setsA)
/-- How many sets and keys the nodes hold. -/
def sumT (ts : List NodeD) : Nat := (ts.map fun ns => ns.length + sumN ns).sum
theorem sumT_nil : sumT [] = 0 := rfl
theorem sumT_cons (n : NodeD) (ts : List NodeD) : sumT (n :: ts) = (n.length + sumN n) + sumT ts := by simp [sumT]
theorem sumT_append (a b : List NodeD) : sumT (a ++ b) = sumT a + sumT b := by simp [sumT]
theorem sumT_mem {n : NodeD} {ts : List NodeD} (h : n ∈ ts) : n.length + sumN n ≤ sumT ts := by
  induction ts with
  | nil => simp at h
  | cons a ns ih =>
    rw [sumT_cons]
    rcases List.mem_cons.1 h with rfl | h
    · omega
    · have := ih h; omega
theorem sumT_take {ts : List NodeD} {k : Nat} (h : k < ts.length) : sumT (ts.take (k + 1)) = sumT (ts.take k) + ((ts[k]).length + sumN ts[k]) := by
  rw [List.take_succ_eq_append_getElem h, sumT_append, sumT_cons, sumT_nil]; omega
theorem sumT_take_le (ts : List NodeD) (k : Nat) : sumT (ts.take k) ≤ sumT ts := by
  have h := sumT_append (ts.take k) (ts.drop k)
  rw [List.take_append_drop] at h
  omega
def SmallT (lo : List Int) (ts : List NodeD) : Prop := lo.length ≤ 1100000 ∧ ts.length ≤ 1100000 ∧ sumT ts ≤ 1100000
theorem SmallT.at {lo : List Int} {ts : List NodeD} (h : SmallT lo ts) {k : Nat} (hk : k < ts.length) : SmallN ts[k] := by
  have := sumT_mem (List.getElem_mem hk)
  have := h.2.2
  exact ⟨by omega, by omega⟩
theorem small_at {ts : List NodeD} (h : sumT ts ≤ 1100000) {k : Nat} (hk : k < ts.length) : SmallN ts[k] := by
  have := sumT_mem (List.getElem_mem hk)
  exact ⟨by omega, by omega⟩
/-- A row of ints, one by one. -/
theorem Reads.int {w : World} {B : Nat} {A : Option Addr} {n cap : Nat} {l : List Int} (h : Reads w B (.slice A n cap) (intsD l)) {i : Nat} (hi : i < l.length) :
    ∃ b off, A = some ⟨b, off, none⟩ ∧ b < B ∧ ∀ k (hk : k < l.length), w.cell? ⟨b, off + k, none⟩ = some (iV l[k]) := by
  obtain ⟨A', cap', hv, hn, hc, hl, _, k⟩ := h.row'
  cases hv
  rcases k with h | ⟨b, off, xs, rfl, hb, hx, hcell, hr⟩
  · simp at h; subst h; simp at hi
  · refine ⟨b, off, rfl, hb, fun k hk => ?_⟩
    have hx' : xs.length = l.length := by simpa using hx
    have h1 := hr k (by omega) (by simpa using hk)
    rw [List.getElem_map] at h1
    have h2 := hcell k (by omega)
    generalize xs[k] = x at h1 h2
    cases h1
    exact h2
theorem Reads.node' {w : World} {B : Nat} {A : Option Addr} {e e2 n cap : Nat} {ts : List NodeD} {f : NodeD → Dat} {g : NodeD → List Dat} (hf : ∀ ns, f ns = .row e2 1 ns.length (g ns)) (h : Reads w B (.slice A n cap) (.row e 1 ts.length (ts.map f))) {i : Nat} (hi : i < ts.length) :
    ∃ b off, A = some ⟨b, off, none⟩ ∧ b < B ∧ ∀ k (hk : k < ts.length), ∃ A2 c2, w.cell? ⟨b, off + k, none⟩ = some (.slice A2 (ts[k]).length c2) ∧ (ts[k]).length ≤ c2 ∧ c2 ≤ maxLen ∧ Reads w B (.slice A2 (ts[k]).length c2) (f ts[k]) := by
  obtain ⟨A', cap', hv, hn, hc, hl, _, k⟩ := h.row'
  cases hv
  rcases k with h | ⟨b, off, xs, rfl, hb, hx, hcell, hr⟩
  · simp at h; subst h; simp at hi
  · refine ⟨b, off, rfl, hb, fun k hk => ?_⟩
    have hx' : xs.length = ts.length := by simpa using hx
    have h1 := hr k (by omega) (by simpa using hk)
    rw [List.getElem_map] at h1
    have h2 := hcell k (by omega)
    generalize xs[k] = x at h1 h2
    rw [hf] at h1
    obtain ⟨A2, c2, rfl, h3, h4⟩ := h1.lenN
    rw [← hf] at h1
    exact ⟨A2, c2, h2, h3, h4, h1⟩
theorem Reads.node {w : World} {B : Nat} {A : Option Addr} {n cap : Nat} {ts : List NodeD} (h : Reads w B (.slice A n cap) (nodesD ts)) {i : Nat} (hi : i < ts.length) :
    ∃ b off, A = some ⟨b, off, none⟩ ∧ b < B ∧ ∀ k (hk : k < ts.length), ∃ A2 c2, w.cell? ⟨b, off + k, none⟩ = some (.slice A2 (ts[k]).length c2) ∧ (ts[k]).length ≤ c2 ∧ c2 ≤ maxLen ∧ Reads w B (.slice A2 (ts[k]).length c2) (setsD ts[k]) :=
  Reads.node' (f := setsD) (fun _ => rfl) h hi
theorem Reads.nodeA {w : World} {B : Nat} {A : Option Addr} {n cap : Nat} {ts : List NodeD} (h : Reads w B (.slice A n cap) (nodesA ts)) {i : Nat} (hi : i < ts.length) :
    ∃ b off, A = some ⟨b, off, none⟩ ∧ b < B ∧ ∀ k (hk : k < ts.length), ∃ A2 c2, w.cell? ⟨b, off + k, none⟩ = some (.slice A2 (ts[k]).length c2) ∧ (ts[k]).length ≤ c2 ∧ c2 ≤ maxLen ∧ Reads w B (.slice A2 (ts[k]).length c2) (setsA ts[k]) :=
  Reads.node' (f := setsA) (fun _ => rfl) h hi
/-- Owned like Owns, but the block may be longer than the slice's capacity says. -/
def OwnC (w : World) (S : Nat → Prop) (v : Value) : Dat → Prop
  | .lit _ => False
  | .row e z n cs => (v = .slice none 0 0 ∧ n = 0 ∧ cs = []) ∨ ∃ (g cap : Nat) (cur : Array Value) (xs : List Value), v = .slice (some ⟨g, 0, none⟩) n cap ∧ S g ∧ w.heap[g]? = some (.cells cur e (0, 0)) ∧ n ≤ cap ∧ cap ≤ maxLen ∧ n * z ≤ cur.size ∧ cs.length = n * z ∧ cur.toList.take (n * z) = xs ∧ OwnsL w (fun b => S b ∧ b ≠ g) xs cs
theorem Owns.ownC {w : World} {S : Nat → Prop} {v : Value} {e z n : Nat} {cs : List Dat} (h : Owns w S v (.row e z n cs)) : OwnC w S v (.row e z n cs) := by
  rcases h.row' with h | ⟨g, cap, cur, xs, h1, h2, h3, h4, h5, h6, h7, h8, h9⟩
  · exact .inl h
  · exact .inr ⟨g, cap, cur, xs, h1, h2, h3, h4, h5, by rw [h6]; exact Nat.mul_le_mul_right _ h4, h7, h8, h9⟩
theorem OwnC.mono {w : World} {S T : Nat → Prop} {v : Value} {c : Dat} (h : OwnC w S v c) (hS : ∀ b, S b → T b) : OwnC w T v c := by
  cases c with
  | lit u => exact h
  | row e z n cs =>
    rcases h with h | ⟨g, cap, cur, xs, h1, h2, h3, h4, h5, h6, h7, h8, h9⟩
    · exact .inl h
    · exact .inr ⟨g, cap, cur, xs, h1, hS _ h2, h3, h4, h5, h6, h7, h8, h9.mono (fun b hb => ⟨hS b hb.1, hb.2⟩)⟩
theorem OwnC.keep {w w' : World} {S : Nat → Prop} {v : Value} {c : Dat} (h : OwnC w S v c) (hk : ∀ b, S b → b < w.heap.size → w'.heap[b]? = w.heap[b]?) : OwnC w' S v c := by
  cases c with
  | lit u => exact h
  | row e z n cs =>
    rcases h with h | ⟨g, cap, cur, xs, h1, h2, h3, h4, h5, h6, h7, h8, h9⟩
    · exact .inl h
    · exact .inr ⟨g, cap, cur, xs, h1, h2, (hk g h2 (Array.getElem?_eq_some_iff.1 h3).1).trans h3, h4, h5, h6, h7, h8, h9.keep (fun b hb hl => hk b hb.1 hl)⟩
theorem OwnC.lt {w : World} {S : Nat → Prop} {v : Value} {c : Dat} (h : OwnC w S v c) : OwnC w (fun b => S b ∧ b < w.heap.size) v c := by
  cases c with
  | lit u => exact h
  | row e z n cs =>
    rcases h with h | ⟨g, cap, cur, xs, h1, h2, h3, h4, h5, h6, h7, h8, h9⟩
    · exact .inl h
    · exact .inr ⟨g, cap, cur, xs, h1, ⟨h2, (Array.getElem?_eq_some_iff.1 h3).1⟩, h3, h4, h5, h6, h7, h8, h9.lt.mono (fun b hb => ⟨⟨hb.1.1, hb.2⟩, hb.1.2⟩)⟩
theorem OwnC.reads {w : World} {S : Nat → Prop} {v : Value} {c : Dat} (h : OwnC w S v c) : Reads w w.heap.size v c := by
  cases c with
  | lit u => exact h.elim
  | row e z n cs =>
    rcases h with ⟨rfl, rfl, rfl⟩ | ⟨g, cap, cur, xs, rfl, h2, h3, h4, h5, h6, h7, h8, h9⟩
    · exact .nil _ _ _ _ (Nat.zero_le _)
    · have hr := h9.reads
      refine .row g 0 n cap e z xs cs (Array.getElem?_eq_some_iff.1 h3).1 h4 h5 h7 hr.1 (fun i hi => ?_) hr.2
      rw [Nat.zero_add, cell_of_row w g i cur e (0, 0) h3]
      subst h8
      simp at hi ⊢
theorem OwnC.on {w w' : World} {S : Nat → Prop} {v : Value} {c : Dat} (h : OwnC w S v c) (hb : Below w.heap.size w w') : OwnC w' S v c := h.keep (fun b _ hl => hb.block b hl)
theorem OwnC.far {w w' : World} {S T : Nat → Prop} {v : Value} {c : Dat} (h : OwnC w S v c) (hg : Only T w w') (hd : ∀ b, S b → b < w.heap.size → ¬ T b) : OwnC w' S v c := h.keep (fun b hb hl => hg.block b hl (hd b hb hl))
/-- A tree that reads so. -/
def RdT (w : World) (B : Nat) (vl vn : Value) (lo : List Int) (ts : List NodeD) : Prop := Reads w B vl (intsD lo) ∧ Reads w B vn (nodesD ts)
theorem RdT.on {w w' : World} {vl vn : Value} {lo : List Int} {ts : List NodeD} (h : RdT w w.heap.size vl vn lo ts) (hb : Below w.heap.size w w') : RdT w' w'.heap.size vl vn lo ts := ⟨h.1.on hb, h.2.on hb⟩
theorem RdT.shape {w : World} {B : Nat} {vl vn : Value} {lo : List Int} {ts : List NodeD} (h : RdT w B vl vn lo ts) : ∃ A c A' c', vl = .slice A lo.length c ∧ vn = .slice A' ts.length c' := by
  obtain ⟨A, c, rfl, _⟩ := h.1.lenN
  obtain ⟨A', c', rfl, _⟩ := h.2.lenN
  exact ⟨A, c, A', c', rfl, rfl⟩
/-- A tree whose memory is owned, each block met once; TreeS: strictly (the capacities are those of the blocks). -/
def TreeC (w : World) (S : Nat → Prop) (vl vn : Value) (lo : List Int) (ts : List NodeD) : Prop := ∃ P Q : Nat → Prop, (∀ b, P b → S b) ∧ (∀ b, Q b → S b) ∧ (∀ b, P b → ¬ Q b) ∧ OwnC w P vl (intsD lo) ∧ OwnC w Q vn (nodesD ts)
def TreeS (w : World) (S : Nat → Prop) (vl vn : Value) (lo : List Int) (ts : List NodeD) : Prop := ∃ P Q : Nat → Prop, (∀ b, P b → S b) ∧ (∀ b, Q b → S b) ∧ (∀ b, P b → ¬ Q b) ∧ Owns w P vl (intsD lo) ∧ Owns w Q vn (nodesD ts)
theorem TreeS.c {w : World} {S : Nat → Prop} {vl vn : Value} {lo : List Int} {ts : List NodeD} (h : TreeS w S vl vn lo ts) : TreeC w S vl vn lo ts := by
  obtain ⟨P, Q, h1, h2, h3, h4, h5⟩ := h
  exact ⟨P, Q, h1, h2, h3, h4.ownC, h5.ownC⟩
theorem TreeC.mono {w : World} {S T : Nat → Prop} {vl vn : Value} {lo : List Int} {ts : List NodeD} (h : TreeC w S vl vn lo ts) (hS : ∀ b, S b → T b) : TreeC w T vl vn lo ts := by
  obtain ⟨P, Q, h1, h2, h3, h4, h5⟩ := h
  exact ⟨P, Q, fun b hb => hS b (h1 b hb), fun b hb => hS b (h2 b hb), h3, h4, h5⟩
theorem TreeC.keep {w w' : World} {S : Nat → Prop} {vl vn : Value} {lo : List Int} {ts : List NodeD} (h : TreeC w S vl vn lo ts) (hk : ∀ b, S b → b < w.heap.size → w'.heap[b]? = w.heap[b]?) : TreeC w' S vl vn lo ts := by
  obtain ⟨P, Q, h1, h2, h3, h4, h5⟩ := h
  exact ⟨P, Q, h1, h2, h3, h4.keep (fun b hb => hk b (h1 b hb)), h5.keep (fun b hb => hk b (h2 b hb))⟩
theorem TreeC.on {w w' : World} {S : Nat → Prop} {vl vn : Value} {lo : List Int} {ts : List NodeD} (h : TreeC w S vl vn lo ts) (hb : Below w.heap.size w w') : TreeC w' S vl vn lo ts := h.keep (fun b _ hl => hb.block b hl)
theorem TreeC.far {w w' : World} {S T : Nat → Prop} {vl vn : Value} {lo : List Int} {ts : List NodeD} (h : TreeC w S vl vn lo ts) (hg : Only T w w') (hd : ∀ b, S b → b < w.heap.size → ¬ T b) : TreeC w' S vl vn lo ts := h.keep (fun b hb hl => hg.block b hl (hd b hb hl))
theorem TreeC.lt {w : World} {S : Nat → Prop} {vl vn : Value} {lo : List Int} {ts : List NodeD} (h : TreeC w S vl vn lo ts) : TreeC w (fun b => S b ∧ b < w.heap.size) vl vn lo ts := by
  obtain ⟨P, Q, h1, h2, h3, h4, h5⟩ := h
  exact ⟨_, _, fun b hb => ⟨h1 b hb.1, hb.2⟩, fun b hb => ⟨h2 b hb.1, hb.2⟩, fun b hb hb' => h3 b hb.1 hb'.1, h4.lt, h5.lt⟩
theorem TreeC.reads {w : World} {S : Nat → Prop} {vl vn : Value} {lo : List Int} {ts : List NodeD} (h : TreeC w S vl vn lo ts) : RdT w w.heap.size vl vn lo ts := by
  obtain ⟨P, Q, h1, h2, h3, h4, h5⟩ := h
  exact ⟨h4.reads, h5.reads⟩
theorem TreeS.mono {w : World} {S T : Nat → Prop} {vl vn : Value} {lo : List Int} {ts : List NodeD} (h : TreeS w S vl vn lo ts) (hS : ∀ b, S b → T b) : TreeS w T vl vn lo ts := by
  obtain ⟨P, Q, h1, h2, h3, h4, h5⟩ := h
  exact ⟨P, Q, fun b hb => hS b (h1 b hb), fun b hb => hS b (h2 b hb), h3, h4, h5⟩
theorem TreeS.keep {w w' : World} {S : Nat → Prop} {vl vn : Value} {lo : List Int} {ts : List NodeD} (h : TreeS w S vl vn lo ts) (hk : ∀ b, S b → b < w.heap.size → w'.heap[b]? = w.heap[b]?) : TreeS w' S vl vn lo ts := by
  obtain ⟨P, Q, h1, h2, h3, h4, h5⟩ := h
  exact ⟨P, Q, h1, h2, h3, h4.keep (fun b hb => hk b (h1 b hb)), h5.keep (fun b hb => hk b (h2 b hb))⟩
theorem TreeS.on {w w' : World} {S : Nat → Prop} {vl vn : Value} {lo : List Int} {ts : List NodeD} (h : TreeS w S vl vn lo ts) (hb : Below w.heap.size w w') : TreeS w' S vl vn lo ts := h.keep (fun b _ hl => hb.block b hl)
theorem TreeS.lt {w : World} {S : Nat → Prop} {vl vn : Value} {lo : List Int} {ts : List NodeD} (h : TreeS w S vl vn lo ts) : TreeS w (fun b => S b ∧ b < w.heap.size) vl vn lo ts := by
  obtain ⟨P, Q, h1, h2, h3, h4, h5⟩ := h
  exact ⟨_, _, fun b hb => ⟨h1 b hb.1, hb.2⟩, fun b hb => ⟨h2 b hb.1, hb.2⟩, fun b hb hb' => h3 b hb.1 hb'.1, h4.lt, h5.lt⟩
theorem TreeS.reads {w : World} {S : Nat → Prop} {vl vn : Value} {lo : List Int} {ts : List NodeD} (h : TreeS w S vl vn lo ts) : RdT w w.heap.size vl vn lo ts := h.c.reads
def NewTS (w : World) (lo : List Int) (ts : List NodeD) (e : Ending) (w' : World) : Prop := ∃ vl vn, e = .returned (.agg #[vl, vn]) ∧ TreeS w' (fun b => w.heap.size ≤ b) vl vn lo ts ∧ Below w.heap.size w w'
theorem int_info : (Tryz.prog.info? 3).map (fun i => (i.zero, i.size, i.bytes)) = some (some (.int .i64 0), 1, 8) := by kernel_rfl
theorem node_info : (Tryz.prog.info? 97).map (fun i => (i.zero, i.size, i.bytes)) = some (some (.agg #[.slice none 0 0]), 1, 24) := by kernel_rfl
theorem run_makeInts (n : Nat) (hn : n ≤ 1100000) (w : World) :
    (Instr.makeSlice 22 (.int .i64 (n : Int)) (.int .i64 (n : Int))).run Tryz.prog w = .ok (.slice (some ⟨w.heap.size, 0, none⟩) n n) (w.alloc (.cells (madeCells #[.int .i64 0] n) 3)) := by
  obtain ⟨i, hi, h0, h1, h2⟩ := info_parts int_info
  have hr := run_make (P := Tryz.prog) w 22 3 i (.int .i64 0) Tryz.underlying22 hi h0 .i64 .i64 n n (by omega) (by omega) (by rw [h2]; omega) (by omega)
  simp only [Int.toNat_natCast, h1, Nat.mul_one] at hr
  exact hr
theorem run_makeNodes (n : Nat) (hn : n ≤ 1100000) (w : World) :
    (Instr.makeSlice 34 (.int .i64 (n : Int)) (.int .i64 (n : Int))).run Tryz.prog w = .ok (.slice (some ⟨w.heap.size, 0, none⟩) n n) (w.alloc (.cells (madeCells #[.slice none 0 0] n) 97)) := by
  obtain ⟨i, hi, h0, h1, h2⟩ := info_parts node_info
  have hr := run_make (P := Tryz.prog) w 34 97 i (.agg #[.slice none 0 0]) Tryz.underlying34 hi h0 .i64 .i64 n n (by omega) (by omega) (by rw [h2]; omega) (by omega)
  simp only [Int.toNat_natCast, h1, Nat.mul_one] at hr
  exact hr
theorem szIntS_any (A : Option Addr) (n c : Nat) (m : Int) (w : World) (hn : n ≤ maxLen) (h1 : 0 ≤ m) (h2 : m ≤ 1048576) :
    Calls Tryz.prog 52 #[.slice A n c, .int .i64 m] w fun e w' => w = w' ∧ ((e = .returned (.int .i64 (-1)) ∧ m < (n : Nat)) ∨ (e = .returned (.int .i64 (m - (n : Nat))) ∧ ((n : Nat) : Int) ≤ m)) := by
  unfold maxLen at hn
  by_cases h : m - (n : Int) < 0
  · go_enter Tryz.func52, Tryz.ntmps52
    go_wp2
    go_ret
    exact ⟨rfl, .inl ⟨rfl, by omega⟩⟩
  · go_enter Tryz.func52, Tryz.ntmps52
    go_wp2
    go_ret
    exact ⟨rfl, .inr ⟨rfl, by omega⟩⟩
set_option maxHeartbeats 1000000 in
theorem szNodeS_any (v : Value) (ts : List NodeD) (m : Int) (w : World) (hv : Reads w w.heap.size v (nodesA ts)) (h1 : 0 ≤ m) (h2 : m ≤ 1048576) :
    Calls Tryz.prog 53 #[v, .int .i64 m] w fun e w' => Below w.heap.size w w' ∧ ((e = .returned (.int .i64 (-1)) ∧ m < (ts.length + sumT ts : Nat)) ∨ (e = .returned (.int .i64 (m - (ts.length + sumT ts : Nat))) ∧ ((ts.length + sumT ts : Nat) : Int) ≤ m)) := by
  obtain ⟨A, c, rfl, hc1, hc2⟩ := hv.lenN
  unfold maxLen at hc2
  have HV := Lib.hid hv
  clear hv
  by_cases h : m - (ts.length : Int) < 0
  · go_enter Tryz.func53, Tryz.ntmps53
    go_wp2
    go_ret
    exact ⟨Below.refl _ _, .inl ⟨rfl, by omega⟩⟩
  · have d0 : decide (m - (ts.length : Int) < 0) = false := decide_eq_false h
    go_enter Tryz.func53, Tryz.ntmps53
    go_wp2
    go_loopw [1, 5] (fun q i wr => ∃ j : Nat, j ≤ ts.length ∧ i = .int .i64 j ∧ q = .int .i64 (m - (ts.length + sumT (ts.take j) : Nat)) ∧ ((ts.length + sumT (ts.take j) : Nat) : Int) ≤ m ∧ Hid (Below w.heap.size w wr)) (fun _ i _ => ts.length - (intOf i).toNat)
    case atStart => exact ⟨0, Nat.zero_le _, rfl, by simp [sumT], by simp [sumT]; omega, Lib.hid (Below.refl _ _)⟩
    case round =>
      clear d0 h
      obtain ⟨j, hj, rfl, rfl, hle, HB⟩ := hrel
      by_cases hlt : j < ts.length
      · obtain ⟨b, off, rfl, hbb, hc⟩ := (HV.out.on HB.out).nodeA hlt
        obtain ⟨A1, d1, c1, hx1, hx2, r1⟩ := hc j hlt
        have R1 := Lib.hid r1
        have T1 := Lib.hid (sumT_take hlt)
        have T2 := Lib.hid (sumT_take_le ts (j + 1))
        have i1 : (j : Int) < (ts.length : Int) := by omega
        have i2 : (0 : Int) ≤ (j : Int) := by omega
        generalize hq : m - ((ts.length + sumT (ts.take j) : Nat) : Int) = q
        have q0 : 0 ≤ q := by omega
        have q1 : q ≤ 1048576 := by omega
        have HQ := Lib.hid hq
        have HL := Lib.hid hle
        clear hc hq hle r1
        go_wp2_with fail
        refine (szNode_any (.slice A1 (ts[j]).length d1) ts[j] _ R1.out q q0 q1).mono ?_
        rintro e w1 ⟨b1, (⟨rfl, h3⟩ | ⟨rfl, h3⟩)⟩
        · have HB2 := Lib.hid (bstep HB.out b1)
          clear b1
          go_wp2
          go_ret
          refine ⟨HB2.out, .inl ⟨rfl, ?_⟩⟩
          have := HQ.out; have := T1.out; have := T2.out; omega
        · have HB2 := Lib.hid (bstep HB.out b1)
          clear b1
          have d2 : decide (q - (((ts[j]).length + sumN ts[j] : Nat) : Int) < 0) = false := decide_eq_false (by omega)
          go_wp2
          go_roundw
          case rel =>
            refine ⟨j + 1, by omega, by go_num, ?_, ?_, HB2⟩
            · congr 1; have := HQ.out; have := T1.out; omega
            · have := HQ.out; have := T1.out; omega
          case measure => simp [intOf]; omega
      · go_wp2
        go_ret
        have e : j = ts.length := by omega
        subst e
        have hh : sumT (ts.take ts.length) = sumT ts := by rw [List.take_length]
        rw [hh] at hle
        exact ⟨HB.out, .inr ⟨by rw [hh]; rfl, hle⟩⟩
end Go.Proofs.YtpfepcjbhchpcaaGreat
namespace Go.Proofs.YtpfepcjbhchpcaaGreat
open Go.RowKit Go.ChangeShapes Go.WideShapes Go.Deep
set_option maxRecDepth 100000
set_option linter.unusedSimpArgs false
set_option linter.unusedVariables false

theorem ints_opens : Opens Tryz.prog 22 (fun ds => ∃ l, ds = [intsD l]) := by
  have hi : Opens Tryz.prog 3 (fun ds => ∃ n : Int, ds = [.lit (iV n)]) := (Opens.int Tryz.underlying3).weaken (fun ds ⟨n, h, _⟩ => ⟨n, h⟩)
  have h := Opens.slice (z := 1) (fun n : Int => [.lit (iV n)]) (fun _ => rfl) (by omega) Tryz.underlying22 (by kernel_rfl) hi 3
  refine h.weaken (fun ds ⟨l, hl⟩ => ⟨l, ?_⟩)
  rw [hl, intsD, flat_one]
theorem nodes_opens : Opens Tryz.prog 23 (fun ds => ∃ ts, ds = [nodesA ts]) := by
  have h := Opens.slice (z := 1) (fun ns : NodeD => [setsA ns]) (fun _ => rfl) (by omega) Tryz.underlying23 (by kernel_rfl) node_opens 151
  refine h.weaken (fun ds ⟨l, hl⟩ => ⟨l, ?_⟩)
  rw [hl, nodesA, flat_one]
theorem tree_opens : Opens Tryz.prog 25 (fun ds => ∃ lo ts, ds = [intsD lo, nodesA ts]) := by
  have h := Opens.struct (P := Tryz.prog) Tryz.underlying25 (by kernel_rfl) [fun ds => ∃ l, ds = [intsD l], fun ds => ∃ ts, ds = [nodesA ts]] rfl (fun i hi => by
    match i, hi with
    | 0, _ => exact ints_opens
    | 1, _ => exact nodes_opens)
  refine h.weaken (fun ds ⟨dss, hd, hC, hds⟩ => ?_)
  match dss, hd with
  | [a, b], _ =>
    obtain ⟨lo, h0⟩ := hC 0 (by simp)
    obtain ⟨ts, h1⟩ := hC 1 (by simp)
    simp at h0 h1
    subst h0 h1
    exact ⟨lo, ts, by rw [hds]; rfl⟩
theorem ints_litL (w : World) (S : Nat → Prop) (l : List Int) : OwnsL w S (l.map iV) (l.map fun n => .lit (iV n)) :=
  ⟨by simp, fun _ _ => False, fun i h h' => by simp only [List.getElem_map]; exact .lit _ _, fun _ _ h => h.elim, fun _ _ _ _ h => h.elim⟩
theorem made1I (n : Nat) : (madeCells #[.int .i64 0] n).size = n * 1 := by simp [size_madeCells]
theorem toIntS_any (v : Value) (l : List Int) (w : World) (hv : Reads w w.heap.size v (intsD l)) (hn : l.length ≤ 1048576) :
    Calls Tryz.prog 67 #[v] w fun e w' => ∃ u, e = .returned u ∧ Owns w' (fun b => w.heap.size ≤ b) u (intsD l) ∧ Below w.heap.size w w' := by
  obtain ⟨A, c, rfl, _, _⟩ := hv.lenN
  have hmk := run_makeInts l.length (by omega)
  have HV := Lib.hid hv
  clear hv
  go_enter Tryz.func67, Tryz.ntmps67
  go_wp2
  go_loopw [4] (fun i wr => ∃ k : Nat, k ≤ l.length ∧ i = .int .i64 k ∧ Hid (RowV wr w.heap.size (l.length * 1) 3 ((l.take k).map iV)) ∧ Hid (Below w.heap.size w wr)) (fun i _ => l.length - (intOf i).toNat)
  case atStart => exact ⟨0, Nat.zero_le _, rfl, Lib.hid (by rw [← made1I]; exact RowV.new w _ _), Lib.hid ((Below.refl _ _).alloc (Nat.le_refl _) _)⟩
  case round =>
    obtain ⟨k, hk, rfl, HR, HB⟩ := hrel
    by_cases hlt : k < l.length
    · obtain ⟨b, off, rfl, hbb, hc⟩ := (HV.out.on HB.out).int hlt
      have c1 := hc k hlt
      unfold iV at c1
      have hl : ((l.take k).map iV).length = k := by simp; omega
      obtain ⟨y, c2⟩ := HR.out.cell (k := k) (by omega)
      have f2 := HR.out.frozen k
      have h1 := HR.out.step (by rw [hl]; omega) (iV l[k])
      rw [hl] at h1
      have HR2 : Hid (RowV (wr.setCell ⟨w.heap.size, k, none⟩ (.int .i64 l[k])) w.heap.size (l.length * 1) 3 ((l.take (k + 1)).map iV)) := Lib.hid (by rw [List.take_succ_eq_append_getElem hlt, List.map_append]; exact h1)
      have HB2 := Lib.hid (HB.out.setCell (p := ⟨w.heap.size, k, none⟩) (Nat.le_refl _) (.int .i64 l[k]))
      have i1 : (k : Int) < (l.length : Int) := by omega
      have i2 : (0 : Int) ≤ (k : Int) := by omega
      clear hc h1 hl HR HB
      go_wp2
      go_roundw
      case rel => exact ⟨k + 1, by omega, by go_num, HR2, HB2⟩
      case measure => simp [intOf]; omega
    · go_wp2
      go_ret
      have e : k = l.length := by omega
      subst e
      have h := HR.out
      rw [List.take_length] at h
      exact ⟨_, rfl, h.owns (ints_litL _ _ _) (by simp) (by unfold maxLen; omega), HB.out⟩
theorem toNodeS_any (v : Value) (ts : List NodeD) (w : World) (hv : Reads w w.heap.size v (nodesA ts)) (hn : ts.length + sumT ts ≤ 1048576) :
    Calls Tryz.prog 68 #[v] w fun e w' => ∃ u, e = .returned u ∧ Owns w' (fun b => w.heap.size ≤ b) u (nodesD ts) ∧ Below w.heap.size w w' := by
  obtain ⟨A, c, rfl, _, _⟩ := hv.lenN
  have hmk := run_makeNodes ts.length (by omega)
  have HV := Lib.hid hv
  clear hv
  go_enter Tryz.func68, Tryz.ntmps68
  go_wp2
  go_loopw [4] (fun i wr => ∃ (k : Nat) (xs : List Value), k ≤ ts.length ∧ i = .int .i64 k ∧ RowV wr w.heap.size (ts.length * 1) 97 xs ∧ OwnsL wr (fun b => w.heap.size < b) xs ((ts.take k).map setsD) ∧ Below w.heap.size w wr) (fun i _ => ts.length - (intOf i).toNat)
  case atStart => exact ⟨0, [], Nat.zero_le _, rfl, by rw [← made1N (.slice none 0 0)]; exact RowV.new w _ _, OwnsL.nil _ _, (Below.refl _ _).alloc (Nat.le_refl _) _⟩
  case round =>
    obtain ⟨k, xs, hk, rfl, hrow, hown, hb⟩ := hrel
    by_cases hlt : k < ts.length
    · obtain ⟨b, off, rfl, hbb, hc⟩ := (HV.out.on hb).nodeA hlt
      obtain ⟨A1, d1, c1, _, _, r1⟩ := hc k hlt
      have hl := sumT_mem (List.getElem_mem hlt)
      have HX : Hid (xs.length = k) := Lib.hid (by rw [hown.1]; simp; omega)
      have hg := hrow.lt
      have R1 := Lib.hid r1
      clear hc r1
      have i1 : (k : Int) < (ts.length : Int) := by omega
      have i2 : (0 : Int) ≤ (k : Int) := by omega
      go_wp2_with fail
      refine (toNode_any _ ts[k] _ R1.out (by omega)).mono ?_
      rintro e w1 ⟨vv, rfl, o2, b1⟩
      obtain ⟨Av, cv, rfl, _, _⟩ := o2.reads.lenN
      have hrow1 := hrow.keep (b1.block _ hg)
      have hb1 := hb.trans (b1.mono hb.size)
      obtain ⟨y, c2⟩ := hrow1.cell (k := k) (by omega)
      have f2 := hrow1.frozen k
      have HR := Lib.hid (hrow1.step (by rw [HX.out]; omega) (.slice Av (ts[k]).length cv))
      have HO := Lib.hid (OwnsL.push (j := k) (u := .slice Av (ts[k]).length cv) hown b1 o2 hg)
      have HB := Lib.hid (hb1.setCell (p := ⟨w.heap.size, k, none⟩) (Nat.le_refl _) (.slice Av (ts[k]).length cv))
      clear hrow hrow1 hown hb1 hb o2 b1
      go_wp2
      go_roundw
      case rel =>
        refine ⟨k + 1, xs ++ [.slice Av (ts[k]).length cv], by omega, by go_num, ?_, ?_, HB.out⟩
        · have h := HR.out
          rw [HX.out] at h
          exact h
        · have h := HO.out
          rw [List.take_succ_eq_append_getElem hlt, List.map_append]
          exact h
      case measure => simp [intOf]; omega
    · go_wp2
      go_ret
      have e : k = ts.length := by omega
      subst e
      rw [List.take_length] at hown
      exact ⟨_, rfl, hrow.owns hown (by simp) (by unfold maxLen; omega), hb⟩
theorem toTree_any (vl vn : Value) (lo : List Int) (ts : List NodeD) (w : World) (hl : Reads w w.heap.size vl (intsD lo)) (hv : Reads w w.heap.size vn (nodesA ts)) (hn : lo.length + (ts.length + sumT ts) ≤ 1048576) :
    Calls Tryz.prog 25 #[.agg #[vl, vn]] w (NewTS w lo ts) := by
  have HI := Lib.hid (fun W b => toIntS_any vl lo W (hl.on b) (by omega))
  have HN := Lib.hid (fun W b => toNodeS_any vn ts W (hv.on b) (by omega))
  obtain ⟨A, c, rfl, _, _⟩ := hl.lenN
  obtain ⟨A', c', rfl, _, _⟩ := hv.lenN
  obtain ⟨q0, q1, q2⟩ := al3 w (.cells #[.slice A lo.length c, .slice A' ts.length c'] 25) (.cells #[.slice none 0 0, .slice none 0 0] 36) (.cells #[.slice none 0 0, .slice none 0 0] 36)
  have Q0 := Lib.hid q0
  have Q1 := Lib.hid q1
  have Q2 := Lib.hid q2
  have HB := Lib.hid (bal3 w (.cells #[.slice A lo.length c, .slice A' ts.length c'] 25) (.cells #[.slice none 0 0, .slice none 0 0] 36) (.cells #[.slice none 0 0, .slice none 0 0] 36))
  have HZ : Hid ((((w.alloc (.cells #[.slice A lo.length c, .slice A' ts.length c'] 25)).alloc (.cells #[.slice none 0 0, .slice none 0 0] 36)).alloc (.cells #[.slice none 0 0, .slice none 0 0] 36)).heap.size = w.heap.size + 3) := Lib.hid (by simp)
  clear hv hl q0 q1 q2
  go_enter Tryz.func25, Tryz.ntmps25
  go_upto_region 2 with (fail)
  generalize ((w.alloc (.cells #[.slice A lo.length c, .slice A' ts.length c'] 25)).alloc (.cells #[.slice none 0 0, .slice none 0 0] 36)).alloc (.cells #[.slice none 0 0, .slice none 0 0] 36) = W at *
  obtain ⟨x0, x1, x2⟩ := box2 Q0.out
  go_wp2_with fail
  refine (HI.out _ HB.out).mono ?_
  rintro e w1 ⟨u1, rfl, o1, b1⟩
  obtain ⟨A1, c1, rfl, _, _⟩ := o1.reads.lenN
  clear x0 x1 x2
  have hz := HZ.out
  have hz1 := b1.size
  replace Q0 := Lib.hid (box_far (g := w.heap.size + 1 + 1) (j := 0) (u := .slice A1 lo.length c1) (box_on Q0.out b1) (by omega))
  replace Q1 := Lib.hid (box_far (g := w.heap.size + 1 + 1) (j := 0) (u := .slice A1 lo.length c1) (box_on Q1.out b1) (by omega))
  obtain ⟨x0, x1, x2⟩ := box2 (box_on Q2.out b1)
  replace Q2 := Lib.hid (box_set (i := 0) (u := .slice A1 lo.length c1) (box_on Q2.out b1))
  replace HB := Lib.hid ((bstep HB.out b1).setCell (p := ⟨w.heap.size + 1 + 1, 0, none⟩) (show w.heap.size ≤ w.heap.size + 1 + 1 by omega) (.slice A1 lo.length c1))
  have O1 := Lib.hid (Owns.keep (w' := w1.setCell ⟨w.heap.size + 1 + 1, 0, none⟩ (.slice A1 lo.length c1)) (o1.lt.mono (T := fun b => w.heap.size + 3 ≤ b ∧ b < w1.heap.size) (fun b hb => ⟨by omega, by omega⟩)) (fun b hb _ => Below.heap_setCell _ _ _ _ (fun h => by have h1 : b = w.heap.size + 1 + 1 := h; omega)))
  have ZZ : Hid (w1.heap.size = (w1.setCell ⟨w.heap.size + 1 + 1, 0, none⟩ (.slice A1 lo.length c1)).heap.size) := Lib.hid (by simp)
  simp only [List.setIfInBounds_toArray, List.set_cons_zero] at Q2
  clear o1 b1
  go_upto_region 3 with (fail)
  clear x0 x1 x2
  generalize w1.setCell ⟨w.heap.size + 1 + 1, 0, none⟩ (.slice A1 lo.length c1) = W1 at *
  have hy1 := Nat.le_of_eq ZZ.out
  have hy2 := Nat.le_of_eq ZZ.out.symm
  obtain ⟨x0, x1, x2⟩ := box2 Q0.out
  go_wp2_with fail
  refine (HN.out _ HB.out).mono ?_
  rintro e w2 ⟨u2, rfl, o2, b2⟩
  obtain ⟨A2, c2, rfl, _, _⟩ := o2.reads.lenN
  clear x0 x1 x2
  obtain ⟨x0, x1, x2⟩ := box2 (box_on Q2.out b2)
  obtain ⟨y0, y1, y2⟩ := box2 (box_on Q1.out b2)
  have O2 := Lib.hid o2
  have OO := Lib.hid (O1.out.on b2)
  have BB := Lib.hid (bstep HB.out b2)
  have hz2 := b2.size
  clear o2 b2
  go_wp2
  have HO : ∀ a b c, Only (Mid w.heap.size (w.heap.size + 3)) w2 (((w2.setCell ⟨w.heap.size + 1 + 1, 1, none⟩ a).setCell ⟨w.heap.size + 1, 0, none⟩ b).setCell ⟨w.heap.size + 1, 1, none⟩ c) := fun a b c => (((Only.refl _ _).setCell (.mk (by omega) (by omega)) _).setCell (.mk (by omega) (by omega)) _).setCell (.mk (by omega) (by omega)) _
  refine bodyPost_ret (v := .agg #[.slice A1 lo.length c1, .slice A2 ts.length c2]) (by simp [results, Tryz.results25, go_sem, y0, y1, y2, x0, x1, x2]) rfl ⟨_, _, rfl, ⟨fun b => w.heap.size + 3 ≤ b ∧ b < w1.heap.size, fun b => W1.heap.size ≤ b, fun b hb => by omega, fun b hb => by omega, fun b hb hb' => by omega, ?_, ?_⟩, bpast BB.out (HO _ _ _)⟩
  · exact OO.out.far (HO _ _ _) (fun b hb _ hb' => by have := hb'.2; omega)
  · exact O2.out.far (HO _ _ _) (fun b hb _ hb' => by have := hb'.2; omega)
set_option maxHeartbeats 1000000 in
theorem eqIntS_same (v u : Value) (l : List Int) (w : World) (hv : Reads w w.heap.size v (intsD l)) (hu : Reads w w.heap.size u (intsD l)) (hn : l.length ≤ 1100000) :
    Calls Tryz.prog 83 #[v, u] w (SaysBool w true) := by
  obtain ⟨A, c, rfl, _, _⟩ := hv.lenN
  obtain ⟨A', c', rfl, _, _⟩ := hu.lenN
  have hne : ((l.length : Int) != (l.length : Int)) = false := by simp
  have HV := Lib.hid hv
  have HU := Lib.hid hu
  clear hv hu
  go_enter Tryz.func83, Tryz.ntmps83
  go_wp2
  go_loopw [5] (fun i wr => ∃ k : Nat, k ≤ l.length ∧ i = .int .i64 k ∧ Hid (Below w.heap.size w wr)) (fun i _ => l.length - (intOf i).toNat)
  case atStart => exact ⟨0, Nat.zero_le _, rfl, Lib.hid (Below.refl _ _)⟩
  case round =>
    obtain ⟨k, hk, rfl, HB⟩ := hrel
    by_cases hlt : k < l.length
    · obtain ⟨b, off, rfl, hbb, hc⟩ := (HV.out.on HB.out).int hlt
      obtain ⟨b2, off2, rfl, hbb2, hc2⟩ := (HU.out.on HB.out).int hlt
      have c1 := hc k hlt
      have c2 := hc2 k hlt
      unfold iV at c1 c2
      clear hc hc2
      have i1 : (k : Int) < (l.length : Int) := by omega
      have i2 : (0 : Int) ≤ (k : Int) := by omega
      have hne2 : (l[k] != l[k]) = false := by simp
      go_wp2
      go_still_tail 8, (by kernel_rfl)
      change wpList _ _ _ _ _ wr.drew
      have HB1 := Lib.hid (bstep HB.out (Below.drew1 _))
      generalize wr.drew = wd at *
      go_wp2
      go_roundw
      case rel => exact ⟨k + 1, by omega, by go_num, HB1⟩
      case measure => simp [intOf]; omega
    · go_wp2
      go_ret
      exact ⟨rfl, HB.out⟩
set_option maxHeartbeats 1000000 in
theorem eqNodeS_same (v u : Value) (ts : List NodeD) (w : World) (hv : Reads w w.heap.size v (nodesD ts)) (hu : Reads w w.heap.size u (nodesD ts)) (hn : ts.length ≤ 1100000) (hs : sumT ts ≤ 1100000) :
    Calls Tryz.prog 84 #[v, u] w (SaysBool w true) := by
  obtain ⟨A, c, rfl, _, _⟩ := hv.lenN
  obtain ⟨A', c', rfl, _, _⟩ := hu.lenN
  have hne : ((ts.length : Int) != (ts.length : Int)) = false := by simp
  have HV := Lib.hid hv
  have HU := Lib.hid hu
  have HS := Lib.hid hs
  clear hv hu hs
  go_enter Tryz.func84, Tryz.ntmps84
  go_wp2
  go_loopw [5] (fun i wr => ∃ k : Nat, k ≤ ts.length ∧ i = .int .i64 k ∧ Hid (Below w.heap.size w wr)) (fun i _ => ts.length - (intOf i).toNat)
  case atStart => exact ⟨0, Nat.zero_le _, rfl, Lib.hid (Below.refl _ _)⟩
  case round =>
    obtain ⟨k, hk, rfl, HB⟩ := hrel
    by_cases hlt : k < ts.length
    · obtain ⟨b, off, rfl, hbb, hc⟩ := (HV.out.on HB.out).node hlt
      obtain ⟨b2, off2, rfl, hbb2, hc2⟩ := (HU.out.on HB.out).node hlt
      obtain ⟨A1, d1, c1, _, _, r1⟩ := hc k hlt
      obtain ⟨A2, d2, c2, _, _, r2⟩ := hc2 k hlt
      have hl := Lib.hid (small_at HS.out hlt)
      have R1 := Lib.hid r1
      have R2 := Lib.hid r2
      clear hc hc2 r1 r2
      have i1 : (k : Int) < (ts.length : Int) := by omega
      have i2 : (0 : Int) ≤ (k : Int) := by omega
      go_wp2
      go_still_tail 8, (by kernel_rfl)
      change wpList _ _ _ _ _ wr.drew
      have HB1 := Lib.hid (bstep HB.out (Below.drew1 _))
      have Q1 := Lib.hid (R1.out.on (Below.drew1 _))
      have Q2 := Lib.hid (R2.out.on (Below.drew1 _))
      clear R1 R2
      generalize wr.drew = wd at *
      go_wp2_with fail
      refine (eqNode_same _ _ ts[k] _ Q1.out Q2.out hl.out).mono ?_
      rintro e w2 ⟨rfl, b2⟩
      have HB2 := Lib.hid (bstep HB1.out b2)
      clear b2
      go_wp2
      go_roundw
      case rel => exact ⟨k + 1, by omega, by go_num, HB2⟩
      case measure => simp [intOf]; omega
    · go_wp2
      go_ret
      exact ⟨rfl, HB.out⟩
theorem eqTree_same (vl vn ul un : Value) (lo : List Int) (ts : List NodeD) (w : World) (hv : RdT w w.heap.size vl vn lo ts) (hu : RdT w w.heap.size ul un lo ts) (hs : SmallT lo ts) :
    Calls Tryz.prog 32 #[.agg #[vl, vn], .agg #[ul, un]] w (SaysBool w true) := by
  have HI := Lib.hid (fun W b => eqIntS_same vl ul lo W (hv.1.on b) (hu.1.on b) hs.1)
  have HN := Lib.hid (fun W b => eqNodeS_same vn un ts W (hv.2.on b) (hu.2.on b) hs.2.1 hs.2.2)
  obtain ⟨A, c, A', c', rfl, rfl⟩ := hv.shape
  obtain ⟨B, d, B', d', rfl, rfl⟩ := hu.shape
  have HB := Lib.hid (bal2 w (.cells #[.slice A lo.length c, .slice A' ts.length c'] 36) (.cells #[.slice B lo.length d, .slice B' ts.length d'] 36))
  obtain ⟨q0, q1⟩ := al2 w (.cells #[.slice A lo.length c, .slice A' ts.length c'] 36) (.cells #[.slice B lo.length d, .slice B' ts.length d'] 36)
  have Q0 := Lib.hid q0
  have Q1 := Lib.hid q1
  clear hv hu q0 q1
  go_enter Tryz.func32, Tryz.ntmps32
  go_upto_region 1 with (fail)
  generalize (w.alloc (.cells #[.slice A lo.length c, .slice A' ts.length c'] 36)).alloc (.cells #[.slice B lo.length d, .slice B' ts.length d'] 36) = W at *
  obtain ⟨x0, x1, x2⟩ := box2 Q0.out
  obtain ⟨y0, y1, y2⟩ := box2 Q1.out
  go_wp2_with fail
  refine (HI.out _ HB.out).mono ?_
  rintro e w1 ⟨rfl, b1⟩
  clear x0 x1 x2 y0 y1 y2
  have B1 := Lib.hid (bstep HB.out b1)
  obtain ⟨x0, x1, x2⟩ := box2 (box_on Q0.out b1)
  obtain ⟨y0, y1, y2⟩ := box2 (box_on Q1.out b1)
  clear b1
  go_wp2_with fail
  refine (HN.out _ B1.out).mono ?_
  rintro e w2 ⟨rfl, b2⟩
  have B2 := Lib.hid (bstep B1.out b2)
  clear b2
  go_wp2
  go_ret
  exact ⟨rfl, B2.out⟩
end Go.Proofs.YtpfepcjbhchpcaaGreat
namespace Go.Proofs.YtpfepcjbhchpcaaGreat
open Go.RowKit Go.ChangeShapes Go.WideShapes Go.Deep
set_option maxRecDepth 100000
set_option linter.unusedSimpArgs false
set_option linter.unusedVariables false

def RwC (w : World) (g : Nat) (e : TypeId) (n : Nat) (xs : List Value) : Prop := ∃ cur : Array Value, w.heap[g]? = some (.cells cur e (0, 0)) ∧ n ≤ cur.size ∧ cur.toList.take n = xs
theorem RwC.set {w : World} {g : Nat} {e : TypeId} {n : Nat} {xs : List Value} (h : RwC w g e n xs) (i : Nat) (u : Value) : RwC (w.setCell ⟨g, i, none⟩ u) g e n (xs.set i u) := by
  obtain ⟨cur, hg, hs, hx⟩ := h
  refine ⟨cur.setIfInBounds i u, heap_setCell_same w g i cur _ _ hg, by simpa using hs, ?_⟩
  rw [Array.toList_setIfInBounds, ← hx, List.take_set]
theorem RwC.cell {w : World} {g : Nat} {e : TypeId} {n : Nat} {xs : List Value} (h : RwC w g e n xs) {i : Nat} (hi : i < xs.length) : w.cell? ⟨g, i, none⟩ = some xs[i] := by
  obtain ⟨cur, hg, hs, hx⟩ := h
  rw [cell_of_row w g i cur _ _ hg]
  subst hx
  simp at hi ⊢
theorem RwC.frozen {w : World} {g : Nat} {e : TypeId} {n : Nat} {xs : List Value} (h : RwC w g e n xs) (k : Nat) : w.frozen? ⟨g, k, none⟩ = false := by
  obtain ⟨cur, hg, _⟩ := h
  exact frozen_of_row w g k cur _ hg
theorem lits_eq {w : World} {B : Nat} {xs : List Value} {l : List Int} (h : ReadsL w B xs (l.map fun n => .lit (iV n))) : xs = l.map iV := by
  refine List.ext_getElem (by rw [h.1]; simp) (fun i h1 h2 => ?_)
  have := h.2 i h1 (by rw [← h.1]; exact h1)
  simp only [List.getElem_map] at this ⊢
  generalize xs[i] = x at this
  cases this
  rfl
end Go.Proofs.YtpfepcjbhchpcaaGreat
namespace Go.Proofs.YtpfepcjbhchpcaaGreat
open Go.RowKit Go.ChangeShapes Go.WideShapes Go.Deep
set_option maxRecDepth 100000
set_option linter.unusedSimpArgs false
set_option linter.unusedVariables false

structure CelD where
  (a : Int) (b : Bool) (c : Int)
  deriving DecidableEq
def CelD.v (k : CelD) : Value := .agg #[.int .i64 k.a, .bool k.b, .int .i64 k.c]
def celC (k : CelD) : List Dat := [.lit (.int .i64 k.a), .lit (.bool k.b), .lit (.int .i64 k.c)]
def celX (k : CelD) : List Value := [.int .i64 k.a, .bool k.b, .int .i64 k.c]
theorem celC_len (k : CelD) : (celC k).length = 3 := rfl
def celsD (l : List CelD) : Dat := .row 107 3 l.length (l.flatMap celC)
/-- Cells in a block that was made for a row of type t: a row of cells, or an array of them. -/
def celsT (t : TypeId) (l : List CelD) : Dat := .row t 3 l.length (l.flatMap celC)
def celsA (l : List CelD) : Dat := .row 109 3 l.length (l.flatMap celC)
def celvl (l : List CelD) : List Value := l.flatMap celX
theorem celvl_cons (k : CelD) (l : List CelD) : celvl (k :: l) = celX k ++ celvl l := rfl
theorem celvl_len (l : List CelD) : (celvl l).length = l.length * 3 := by
  induction l with
  | nil => rfl
  | cons k l ih =>
    rw [celvl_cons, List.length_append, ih]
    simp [celX, Nat.add_mul]; omega
theorem celvl_append (l m : List CelD) : celvl (l ++ m) = celvl l ++ celvl m := by simp [celvl]
theorem celvl_one (k : CelD) : celvl [k] = celX k := by simp [celvl]
theorem cels_len (l : List CelD) : (l.flatMap celC).length = l.length * 3 := flat_len celC 3 l celC_len
theorem celC_map (l : List CelD) : l.flatMap celC = (celvl l).map Dat.lit := by
  induction l with
  | nil => rfl
  | cons k l ih =>
    rw [celvl_cons, List.map_append, ← ih]
    rfl
/-- The cells from place o of block b on hold the datum k. -/
abbrev CelF (w : World) (b o : Nat) (k : CelD) : Prop := w.cell? ⟨b, o, none⟩ = some (.int .i64 k.a) ∧ w.cell? ⟨b, o + 1, none⟩ = some (.bool k.b) ∧ w.cell? ⟨b, o + 2, none⟩ = some (.int .i64 k.c)
theorem CelF.keep {w w' : World} {b o : Nat} {k : CelD} (h : CelF w b o k) (hb : w'.heap[b]? = w.heap[b]?) : CelF w' b o k :=
  ⟨(World.cell?_of_block (a := ⟨b, o, none⟩) hb).trans h.1, (World.cell?_of_block (a := ⟨b, o + 1, none⟩) hb).trans h.2.1, (World.cell?_of_block (a := ⟨b, o + 2, none⟩) hb).trans h.2.2⟩
theorem CelF.on {w w' : World} {b o : Nat} {k : CelD} (h : CelF w b o k) (hlt : b < w.heap.size) (hb : Below w.heap.size w w') : CelF w' b o k := h.keep (hb.block b hlt)
theorem Reads.cels {w : World} {B : Nat} {A : Option Addr} {e n cap : Nat} {l : List CelD} (h : Reads w B (.slice A n cap) (.row e 3 l.length (l.flatMap celC))) {i : Nat} (hi : i < l.length) :
    ∃ b off, A = some ⟨b, off, none⟩ ∧ b < B ∧ ∀ k (hk : k < l.length), CelF w b (off + k * 3) l[k] := by
  obtain ⟨A', cap', hv, hn, hc, hl, _, k⟩ := h.row'
  cases hv
  rcases k with h | ⟨b, off, xs, rfl, hb, hx, hcell, hr⟩
  · have := congrArg List.length h
    rw [cels_len] at this; simp only [List.length_nil] at this; omega
  · refine ⟨b, off, rfl, hb, fun k hk => ?_⟩
    rw [cels_len] at hx
    have get : ∀ j, j < 3 → ∃ x c, w.cell? ⟨b, off + (k * 3 + j), none⟩ = some x ∧ (celC l[k])[j]? = some c ∧ Reads w B x c := by
      intro j hj
      have hlt := flat_lt (z := 3) hk hj
      have h1 := hr (k * 3 + j) (by omega) (by rw [cels_len]; omega)
      have h2 := hcell (k * 3 + j) (by omega)
      have h3 := flat_get celC 3 l celC_len k j hk hj
      rw [List.getElem?_eq_getElem (by rw [cels_len]; omega)] at h3
      exact ⟨_, _, h2, h3.symm, h1⟩
    obtain ⟨x0, c0, a0, b0, r0⟩ := get 0 (by omega)
    obtain ⟨x1, c1, a1, b1, r1⟩ := get 1 (by omega)
    obtain ⟨x2, c2, a2, b2, r2⟩ := get 2 (by omega)
    simp [celC] at b0 b1 b2
    subst b0 b1 b2
    cases r0
    cases r1
    cases r2
    exact ⟨a0, a1, a2⟩
theorem Reads.shapeCel {w : World} {B : Nat} {v : Value} {e : TypeId} {l : List CelD} (h : Reads w B v (.row e 3 l.length (l.flatMap celC))) : ∃ A cap, v = .slice A l.length cap ∧ l.length ≤ cap ∧ cap ≤ maxLen := by
  obtain ⟨A, cap, hv, hn, hc, _⟩ := h.row'
  exact ⟨A, cap, hv, hn, hc⟩
theorem Reads.retype {w : World} {B : Nat} {v : Value} {t : TypeId} {l : List CelD} (h : Reads w B v (celsT t l)) (u : TypeId) : Reads w B v (celsT u l) := by
  obtain ⟨A, cap, rfl, hn, hc, hl, _, k⟩ := h.row'
  rcases k with h | ⟨b, off, xs, rfl, hb, hx, hcell, hr⟩
  · exact Reads.ofBytes (xs := []) hn hc hl (by omega) (.inl h)
  · exact .row b off _ cap u 3 xs _ hb hn hc hl hx hcell hr
/-- A row of the call's own, nil or in a block from base on. -/
def RowCel (w : World) (base : Nat) (v : Value) (l : List CelD) : Prop := w.ownsRow base 107 3 v l.length (celvl l)
theorem RowCel.owns {w : World} {base : Nat} {v : Value} {l : List CelD} (h : RowCel w base v l) : Owns w (fun b => base ≤ b) v (celsD l) := by
  refine row_owns (h : w.ownsRow _ _ _ _ _ _) ?_ (cels_len l)
  rw [celC_map]
  exact lits_own _ _ _
theorem Owns.rowCel {w : World} {S : Nat → Prop} {v : Value} {l : List CelD} (h : Owns w S v (celsD l)) {base : Nat} (hS : ∀ b, S b → base ≤ b) : RowCel w base v l := by
  rcases h.row' with ⟨rfl, h, _⟩ | ⟨g, cap, cur, xs, rfl, hg, hh, hn, hc, hs, hl, hx, ho⟩
  · have : l = [] := List.length_eq_zero_iff.1 h
    subst this
    exact row_nil _ _ _ _
  · have hr := ho.reads
    rw [celC_map] at hr
    have : xs = celvl l := lit_reads (by rw [hr.1]; simp) hr.2
    subst this
    exact ⟨celvl_len l, .inr ⟨g, cap, cur, rfl, hS g hg, hh, hn, hc, hs, hx⟩⟩
theorem RowCel.shape {w : World} {base : Nat} {v : Value} {l : List CelD} (h : RowCel w base v l) : ∃ A cap, v = .slice A l.length cap ∧ l.length ≤ cap ∧ cap ≤ maxLen := h.owns.reads.shapeCel
theorem RowCel.on {w w' : World} {base : Nat} {v : Value} {l : List CelD} (h : RowCel w base v l) (hb : Below w.heap.size w w') : RowCel w' base v l := row_on (h : w.ownsRow _ _ _ _ _ _) hb
theorem RowCel.keep {w w' : World} {base : Nat} {v : Value} {l : List CelD} (h : RowCel w base v l) (hk : ∀ g, v.ownBlock = some g → w'.heap[g]? = w.heap[g]?) : RowCel w' base v l := row_keep (h : w.ownsRow _ _ _ _ _ _) hk
theorem RowCel.lt {w : World} {base : Nat} {v : Value} {l : List CelD} (h : RowCel w base v l) : ∀ g, v.ownBlock = some g → g < w.heap.size ∧ base ≤ g := row_lt (h : w.ownsRow _ _ _ _ _ _)
theorem RowCel.mono {w : World} {base base' : Nat} {v : Value} {l : List CelD} (h : RowCel w base v l) (hb : base' ≤ base) : RowCel w base' v l := h.owns.rowCel (fun b hb' => by omega)
theorem RowCel.set {w : World} {base g j : Nat} {v u : Value} {l : List CelD} (h : RowCel w base v l) (hg : g < base) : RowCel (w.setCell ⟨g, j, none⟩ u) base v l := h.keep (fun k hk => Below.heap_setCell _ _ _ _ (by have := (h.lt k hk).2; simp; omega))
theorem cel_info : (Tryz.prog.info? 107).map (fun i => (i.zero, i.size, i.bytes)) = some (some (.agg #[.int .i64 0, .bool false, .int .i64 0]), 3, 24) := by kernel_rfl
theorem run_makeCel (n m : Nat) (hn : n ≤ m) (hm : m ≤ 2097152) (w : World) :
    (Instr.makeSlice 38 (.int .i64 (n : Int)) (.int .i64 (m : Int))).run Tryz.prog w = .ok (.slice (some ⟨w.heap.size, 0, none⟩) n m) (w.alloc (.cells (madeCells #[.int .i64 0, .bool false, .int .i64 0] (m * 3)) 107)) := by
  obtain ⟨i, hi, h0, h1, h2⟩ := info_parts cel_info
  have hr := run_make (P := Tryz.prog) w 38 107 i (.agg #[.int .i64 0, .bool false, .int .i64 0]) Tryz.underlying38 hi h0 .i64 .i64 n m (by omega) (by omega) (by rw [h2]; omega) (by omega)
  simp only [Int.toNat_natCast, h1] at hr
  exact hr
theorem RowCel.made (w : World) (m : Nat) (hm : m ≤ 2097152) : RowCel (w.alloc (.cells (madeCells #[.int .i64 0, .bool false, .int .i64 0] (m * 3)) 107)) w.heap.size (.slice (some ⟨w.heap.size, 0, none⟩) 0 m) [] :=
  ⟨rfl, .inr ⟨w.heap.size, m, _, rfl, Nat.le_refl _, heap_alloc_new w _, Nat.zero_le _, by unfold maxLen; omega, by rw [size_madeCells], rfl⟩⟩
theorem RowCel.lit (w : World) : RowCel (w.alloc (.cells #[] 107)) w.heap.size (.slice (some ⟨w.heap.size, 0, none⟩) 0 0) [] := row_lit w 107 3
theorem At.cel (w : World) (k : CelD) (e : TypeId) : At (w.alloc (.cells #[.int .i64 k.a, .bool k.b, .int .i64 k.c] e)) (some ⟨w.heap.size, 0, none⟩) (celvl [k]) := by
  refine .inr ⟨w.heap.size, 0, rfl, fun i hi => ?_⟩
  rw [cell_of_row _ _ _ _ _ _ (heap_alloc_new w _)]
  simp only [celvl_one, celX, List.length_cons, List.length_nil] at hi ⊢
  match i, hi with
  | 0, _ => rfl
  | 1, _ => rfl
  | 2, _ => rfl
/-- A call leaves a row in memory of its own. -/
def NewCel (w : World) (l : List CelD) (e : Ending) (w' : World) : Prop := ∃ v, e = .returned v ∧ RowCel w' w.heap.size v l ∧ Below w.heap.size w w'
theorem cel_opens : Opens Tryz.prog 109 (fun ds => ∃ k : CelD, ds = celC k) := by
  have h := Opens.struct (P := Tryz.prog) Tryz.underlying109 (by kernel_rfl) [(fun ds => ∃ n, ds = [Dat.lit (.int .i64 n)] ∧ (Lit.int .i64 n).wf = true), (fun ds => ∃ n : Bool, ds = [Dat.lit (.bool n)]), (fun ds => ∃ n, ds = [Dat.lit (.int .i64 n)] ∧ (Lit.int .i64 n).wf = true)] rfl (fun i hi => by
    match i, hi with
    | 0, _ => exact Opens.int Tryz.underlying3
    | 1, _ => exact Opens.bool Tryz.underlying4
    | 2, _ => exact Opens.int Tryz.underlying3)
  refine h.weaken (fun ds ⟨dss, hd, hC, hds⟩ => ?_)
  match dss, hd with
  | [d0, d1, d2], _ =>
    obtain ⟨n0, h0, _⟩ := hC 0 (by simp)
    obtain ⟨n1, h1⟩ := hC 1 (by simp)
    obtain ⟨n2, h2, _⟩ := hC 2 (by simp)
    simp at h0 h1 h2
    subst h0 h1 h2
    exact ⟨⟨n0, n1, n2⟩, by rw [hds]; rfl⟩
theorem cels_opens : Opens Tryz.prog 27 (fun ds => ∃ l, ds = [celsA l]) :=
  (Opens.slice (z := 3) celC celC_len (by omega) Tryz.underlying27 (by kernel_rfl) cel_opens 109).weaken (fun ds ⟨l, hl⟩ => ⟨l, hl⟩)
end Go.Proofs.YtpfepcjbhchpcaaGreat
namespace Go.Proofs.YtpfepcjbhchpcaaGreat
open Go.RowKit Go.ChangeShapes Go.WideShapes Go.Deep
set_option maxRecDepth 100000
set_option linter.unusedSimpArgs false
set_option linter.unusedVariables false

theorem Opens.str {P : Program} {t : TypeId} (ht : P.underlying t = some .string) : Opens P t (fun ds => ∃ s : ByteArray, ds = [.lit (.string s)] ∧ s.size ≤ maxLen) := fun H enc w base spare held fuel cs x hx => by
  obtain ⟨s, rfl, _, hs⟩ := DataW.trod_string ht hx
  exact ⟨_, ⟨s, rfl, hs⟩, .one (.lit _)⟩
end Go.Proofs.YtpfepcjbhchpcaaGreat
namespace Go.Proofs.YtpfepcjbhchpcaaGreat
open Go.RowKit Go.ChangeShapes Go.WideShapes Go.Deep
set_option maxRecDepth 100000
set_option linter.unusedSimpArgs false
set_option linter.unusedVariables false

structure VolD where
  (a : ByteArray) (b : Int) (c : Int) (d : Bool)
  deriving DecidableEq
def VolD.v (k : VolD) : Value := .agg #[.string k.a, .int .i64 k.b, .int .i64 k.c, .bool k.d]
def volC (k : VolD) : List Dat := [.lit (.string k.a), .lit (.int .i64 k.b), .lit (.int .i64 k.c), .lit (.bool k.d)]
def volX (k : VolD) : List Value := [.string k.a, .int .i64 k.b, .int .i64 k.c, .bool k.d]
theorem volC_len (k : VolD) : (volC k).length = 4 := rfl
def volsD (l : List VolD) : Dat := .row 110 4 l.length (l.flatMap volC)
/-- Vols in a block that was made for a row of type t: a row of them, or an array. -/
def volsT (t : TypeId) (l : List VolD) : Dat := .row t 4 l.length (l.flatMap volC)
def volsA (l : List VolD) : Dat := .row 89 4 l.length (l.flatMap volC)
def volvl (l : List VolD) : List Value := l.flatMap volX
theorem volvl_cons (k : VolD) (l : List VolD) : volvl (k :: l) = volX k ++ volvl l := rfl
theorem volvl_len (l : List VolD) : (volvl l).length = l.length * 4 := by
  induction l with
  | nil => rfl
  | cons k l ih =>
    rw [volvl_cons, List.length_append, ih]
    simp [volX, Nat.add_mul]; omega
theorem volvl_append (l m : List VolD) : volvl (l ++ m) = volvl l ++ volvl m := by simp [volvl]
theorem volvl_one (k : VolD) : volvl [k] = volX k := by simp [volvl]
theorem vols_len (l : List VolD) : (l.flatMap volC).length = l.length * 4 := flat_len volC 4 l volC_len
theorem volC_map (l : List VolD) : l.flatMap volC = (volvl l).map Dat.lit := by
  induction l with
  | nil => rfl
  | cons k l ih =>
    rw [volvl_cons, List.map_append, ← ih]
    rfl
theorem vol_drop {l : List VolD} {k : Nat} (h : k < l.length) : l.drop k = l[k] :: l.drop (k + 1) := List.drop_eq_getElem_cons h
/-- The cells from place o of block b on hold the datum k. -/
abbrev VolF (w : World) (b o : Nat) (k : VolD) : Prop := w.cell? ⟨b, o, none⟩ = some (.string k.a) ∧ w.cell? ⟨b, o + 1, none⟩ = some (.int .i64 k.b) ∧ w.cell? ⟨b, o + 2, none⟩ = some (.int .i64 k.c) ∧ w.cell? ⟨b, o + 3, none⟩ = some (.bool k.d)
theorem VolF.keep {w w' : World} {b o : Nat} {k : VolD} (h : VolF w b o k) (hb : w'.heap[b]? = w.heap[b]?) : VolF w' b o k :=
  ⟨(World.cell?_of_block (a := ⟨b, o, none⟩) hb).trans h.1, (World.cell?_of_block (a := ⟨b, o + 1, none⟩) hb).trans h.2.1, (World.cell?_of_block (a := ⟨b, o + 2, none⟩) hb).trans h.2.2.1, (World.cell?_of_block (a := ⟨b, o + 3, none⟩) hb).trans h.2.2.2⟩
theorem VolF.on {w w' : World} {b o : Nat} {k : VolD} (h : VolF w b o k) (hlt : b < w.heap.size) (hb : Below w.heap.size w w') : VolF w' b o k := h.keep (hb.block b hlt)
theorem Reads.vols {w : World} {B : Nat} {A : Option Addr} {e n cap : Nat} {l : List VolD} (h : Reads w B (.slice A n cap) (.row e 4 l.length (l.flatMap volC))) {i : Nat} (hi : i < l.length) :
    ∃ b off, A = some ⟨b, off, none⟩ ∧ b < B ∧ ∀ k (hk : k < l.length), VolF w b (off + k * 4) l[k] := by
  obtain ⟨A', cap', hv, hn, hc, hl, _, k⟩ := h.row'
  cases hv
  rcases k with h | ⟨b, off, xs, rfl, hb, hx, hcell, hr⟩
  · have := congrArg List.length h
    rw [vols_len] at this; simp only [List.length_nil] at this; omega
  · refine ⟨b, off, rfl, hb, fun k hk => ?_⟩
    rw [vols_len] at hx
    have get : ∀ j, j < 4 → ∃ x c, w.cell? ⟨b, off + (k * 4 + j), none⟩ = some x ∧ (volC l[k])[j]? = some c ∧ Reads w B x c := by
      intro j hj
      have hlt := flat_lt (z := 4) hk hj
      have h1 := hr (k * 4 + j) (by omega) (by rw [vols_len]; omega)
      have h2 := hcell (k * 4 + j) (by omega)
      have h3 := flat_get volC 4 l volC_len k j hk hj
      rw [List.getElem?_eq_getElem (by rw [vols_len]; omega)] at h3
      exact ⟨_, _, h2, h3.symm, h1⟩
    obtain ⟨x0, c0, a0, b0, r0⟩ := get 0 (by omega)
    obtain ⟨x1, c1, a1, b1, r1⟩ := get 1 (by omega)
    obtain ⟨x2, c2, a2, b2, r2⟩ := get 2 (by omega)
    obtain ⟨x3, c3, a3, b3, r3⟩ := get 3 (by omega)
    simp [volC] at b0 b1 b2 b3
    subst b0 b1 b2 b3
    cases r0
    cases r1
    cases r2
    cases r3
    exact ⟨a0, a1, a2, a3⟩
theorem Reads.shapeVol {w : World} {B : Nat} {v : Value} {e : TypeId} {l : List VolD} (h : Reads w B v (.row e 4 l.length (l.flatMap volC))) : ∃ A cap, v = .slice A l.length cap ∧ l.length ≤ cap ∧ cap ≤ maxLen := by
  obtain ⟨A, cap, hv, hn, hc, _⟩ := h.row'
  exact ⟨A, cap, hv, hn, hc⟩
/-- A row of the call's own, nil or in a block from base on. -/
def RowVol (w : World) (base : Nat) (v : Value) (l : List VolD) : Prop := w.ownsRow base 110 4 v l.length (volvl l)
theorem RowVol.owns {w : World} {base : Nat} {v : Value} {l : List VolD} (h : RowVol w base v l) : Owns w (fun b => base ≤ b) v (volsD l) := by
  refine row_owns (h : w.ownsRow _ _ _ _ _ _) ?_ (vols_len l)
  rw [volC_map]
  exact lits_own _ _ _
theorem Owns.rowVol {w : World} {S : Nat → Prop} {v : Value} {l : List VolD} (h : Owns w S v (volsD l)) {base : Nat} (hS : ∀ b, S b → base ≤ b) : RowVol w base v l := by
  rcases h.row' with ⟨rfl, h, _⟩ | ⟨g, cap, cur, xs, rfl, hg, hh, hn, hc, hs, hl, hx, ho⟩
  · have : l = [] := List.length_eq_zero_iff.1 h
    subst this
    exact row_nil _ _ _ _
  · have hr := ho.reads
    rw [volC_map] at hr
    have : xs = volvl l := lit_reads (by rw [hr.1]; simp) hr.2
    subst this
    exact ⟨volvl_len l, .inr ⟨g, cap, cur, rfl, hS g hg, hh, hn, hc, hs, hx⟩⟩
theorem RowVol.shape {w : World} {base : Nat} {v : Value} {l : List VolD} (h : RowVol w base v l) : ∃ A cap, v = .slice A l.length cap ∧ l.length ≤ cap ∧ cap ≤ maxLen := h.owns.reads.shapeVol
theorem RowVol.on {w w' : World} {base : Nat} {v : Value} {l : List VolD} (h : RowVol w base v l) (hb : Below w.heap.size w w') : RowVol w' base v l := row_on (h : w.ownsRow _ _ _ _ _ _) hb
theorem RowVol.keep {w w' : World} {base : Nat} {v : Value} {l : List VolD} (h : RowVol w base v l) (hk : ∀ g, v.ownBlock = some g → w'.heap[g]? = w.heap[g]?) : RowVol w' base v l := row_keep (h : w.ownsRow _ _ _ _ _ _) hk
theorem RowVol.lt {w : World} {base : Nat} {v : Value} {l : List VolD} (h : RowVol w base v l) : ∀ g, v.ownBlock = some g → g < w.heap.size ∧ base ≤ g := row_lt (h : w.ownsRow _ _ _ _ _ _)
theorem RowVol.mono {w : World} {base base' : Nat} {v : Value} {l : List VolD} (h : RowVol w base v l) (hb : base' ≤ base) : RowVol w base' v l := h.owns.rowVol (fun b hb' => by omega)
theorem RowVol.set {w : World} {base g j : Nat} {v u : Value} {l : List VolD} (h : RowVol w base v l) (hg : g < base) : RowVol (w.setCell ⟨g, j, none⟩ u) base v l := h.keep (fun k hk => Below.heap_setCell _ _ _ _ (by have := (h.lt k hk).2; simp; omega))
theorem vol_info : (Tryz.prog.info? 110).map (fun i => (i.zero, i.size, i.bytes)) = some (some (.agg #[.string ⟨#[]⟩, .int .i64 0, .int .i64 0, .bool false]), 4, 40) := by kernel_rfl
theorem run_makeVol (n m : Nat) (hn : n ≤ m) (hm : m ≤ 2097152) (w : World) :
    (Instr.makeSlice 39 (.int .i64 (n : Int)) (.int .i64 (m : Int))).run Tryz.prog w = .ok (.slice (some ⟨w.heap.size, 0, none⟩) n m) (w.alloc (.cells (madeCells #[.string ⟨#[]⟩, .int .i64 0, .int .i64 0, .bool false] (m * 4)) 110)) := by
  obtain ⟨i, hi, h0, h1, h2⟩ := info_parts vol_info
  have hr := run_make (P := Tryz.prog) w 39 110 i (.agg #[.string ⟨#[]⟩, .int .i64 0, .int .i64 0, .bool false]) Tryz.underlying39 hi h0 .i64 .i64 n m (by omega) (by omega) (by rw [h2]; omega) (by omega)
  simp only [Int.toNat_natCast, h1] at hr
  exact hr
theorem RowVol.made (w : World) (m : Nat) (hm : m ≤ 2097152) : RowVol (w.alloc (.cells (madeCells #[.string ⟨#[]⟩, .int .i64 0, .int .i64 0, .bool false] (m * 4)) 110)) w.heap.size (.slice (some ⟨w.heap.size, 0, none⟩) 0 m) [] :=
  ⟨rfl, .inr ⟨w.heap.size, m, _, rfl, Nat.le_refl _, heap_alloc_new w _, Nat.zero_le _, by unfold maxLen; omega, by rw [size_madeCells], rfl⟩⟩
theorem RowVol.lit (w : World) : RowVol (w.alloc (.cells #[] 110)) w.heap.size (.slice (some ⟨w.heap.size, 0, none⟩) 0 0) [] := row_lit w 110 4
theorem At.vol (w : World) (k : VolD) (e : TypeId) : At (w.alloc (.cells #[.string k.a, .int .i64 k.b, .int .i64 k.c, .bool k.d] e)) (some ⟨w.heap.size, 0, none⟩) (volvl [k]) := by
  refine .inr ⟨w.heap.size, 0, rfl, fun i hi => ?_⟩
  rw [cell_of_row _ _ _ _ _ _ (heap_alloc_new w _)]
  simp only [volvl_one, volX, List.length_cons, List.length_nil] at hi ⊢
  match i, hi with
  | 0, _ => rfl
  | 1, _ => rfl
  | 2, _ => rfl
  | 3, _ => rfl
/-- A call leaves a row in memory of its own. -/
def NewVol (w : World) (l : List VolD) (e : Ending) (w' : World) : Prop := ∃ v, e = .returned v ∧ RowVol w' w.heap.size v l ∧ Below w.heap.size w w'
theorem vol_opens : Opens Tryz.prog 89 (fun ds => ∃ k : {k : VolD // k.a.size ≤ maxLen}, ds = volC k.1) := by
  have h := Opens.struct (P := Tryz.prog) Tryz.underlying89 (by kernel_rfl) [(fun ds => ∃ n : ByteArray, ds = [Dat.lit (.string n)] ∧ n.size ≤ maxLen), (fun ds => ∃ n, ds = [Dat.lit (.int .i64 n)] ∧ (Lit.int .i64 n).wf = true), (fun ds => ∃ n, ds = [Dat.lit (.int .i64 n)] ∧ (Lit.int .i64 n).wf = true), (fun ds => ∃ n : Bool, ds = [Dat.lit (.bool n)])] rfl (fun i hi => by
    match i, hi with
    | 0, _ => exact Opens.str Tryz.underlying9
    | 1, _ => exact Opens.int Tryz.underlying3
    | 2, _ => exact Opens.int Tryz.underlying3
    | 3, _ => exact Opens.bool Tryz.underlying4)
  refine h.weaken (fun ds ⟨dss, hd, hC, hds⟩ => ?_)
  match dss, hd with
  | [d0, d1, d2, d3], _ =>
    obtain ⟨n0, h0, z0⟩ := hC 0 (by simp)
    obtain ⟨n1, h1, _⟩ := hC 1 (by simp)
    obtain ⟨n2, h2, _⟩ := hC 2 (by simp)
    obtain ⟨n3, h3⟩ := hC 3 (by simp)
    simp at h0 h1 h2 h3
    subst h0 h1 h2 h3
    exact ⟨⟨⟨n0, n1, n2, n3⟩, z0⟩, by rw [hds]; rfl⟩
theorem vols_opens : Opens Tryz.prog 28 (fun ds => ∃ l, ds = [volsA l] ∧ ∀ k ∈ l, k.a.size ≤ maxLen) :=
  (Opens.slice (z := 4) (fun k : {k : VolD // k.a.size ≤ maxLen} => volC k.1) (fun k => volC_len k.1) (by omega) Tryz.underlying28 (by kernel_rfl) vol_opens 89).weaken (fun ds ⟨l, hl⟩ => ⟨l.map (·.1), by
    rw [hl]
    unfold volsA
    rw [List.length_map, List.flatMap_map], fun k hk => by
    obtain ⟨x, _, rfl⟩ := List.mem_map.1 hk
    exact x.2⟩)
end Go.Proofs.YtpfepcjbhchpcaaGreat
namespace Go.Proofs.YtpfepcjbhchpcaaGreat
open Go.RowKit
set_option maxRecDepth 100000
set_option linter.unusedSimpArgs false
set_option linter.unusedVariables false

theorem toCell_any (k : CelD) (w : World) : Calls Tryz.prog 70 #[.agg #[.int .i64 k.a, .bool k.b, .int .i64 k.c]] w fun e w' => e = .returned (.agg #[.int .i64 k.a, .bool k.b, .int .i64 k.c]) ∧ Below w.heap.size w w' := by
  go_enter Tryz.func70, Tryz.ntmps70
  go_wp2
  refine bodyPost_ret (v := .agg #[.int .i64 k.a, .bool k.b, .int .i64 k.c]) (by simp [results, Tryz.results70, go_sem, *]) rfl ⟨rfl, ?_⟩
  exact bal3 _ _ _ _
theorem RowV.cel {w : World} {g n j : Nat} {e : TypeId} {l : List CelD} (h : RowV w g (n * 3) e (celvl l)) (hj : l.length = j) (hk : j < n) (k : CelD) :
    RowV (((w.setCell ⟨g, j * 3, none⟩ (.int .i64 k.a)).setCell ⟨g, j * 3 + 1, none⟩ (.bool k.b)).setCell ⟨g, j * 3 + 2, none⟩ (.int .i64 k.c)) g (n * 3) e (celvl (l ++ [k])) := by
  have hl := celvl_len l
  rw [hj] at hl
  have h1 := h.step (by omega) (.int .i64 k.a)
  have h2 := h1.step (by simp; omega) (.bool k.b)
  have h3 := h2.step (by simp; omega) (.int .i64 k.c)
  simp only [List.length_append, List.length_singleton, hl, List.append_assoc] at h3
  rw [celvl_append, celvl_one]
  exact h3
theorem RowV.rowCel {w : World} {g n : Nat} {l : List CelD} (h : RowV w g (n * 3) 107 (celvl l)) (hl : l.length = n) (hn : n ≤ 2097152) : RowCel w g (.slice (some ⟨g, 0, none⟩) n n) l := by
  obtain ⟨cur, hg, hs, hl2, ht⟩ := h
  subst hl
  refine ⟨celvl_len l, .inr ⟨g, l.length, cur, rfl, Nat.le_refl _, hg, Nat.le_refl _, by unfold maxLen; omega, hs, ?_⟩⟩
  rw [← celvl_len l]
  exact ht
theorem bsCel {w w1 : World} {g i : Nat} {u1 u2 u3 : Value} {B : Nat} (h : Below B w w1) (hg : B ≤ g) : Below B w (((w1.setCell ⟨g, i, none⟩ u1).setCell ⟨g, i + 1, none⟩ u2).setCell ⟨g, i + 2, none⟩ u3) :=
  ((h.setCell (p := ⟨g, i, none⟩) hg _).setCell (p := ⟨g, i + 1, none⟩) hg _).setCell (p := ⟨g, i + 2, none⟩) hg _
theorem toCellS_any (v : Value) (l : List CelD) (w : World) (hv : Reads w w.heap.size v (celsA l)) (hn : l.length ≤ 1048576) : Calls Tryz.prog 27 #[v] w (NewCel w l) := by
  obtain ⟨A, c, rfl, _, _⟩ := hv.shapeCel
  have hmk := run_makeCel l.length l.length (Nat.le_refl _) (by omega)
  have HT := Lib.hid toCell_any
  go_enter Tryz.func27, Tryz.ntmps27
  go_wp2
  go_loopw [4] (fun i wr => ∃ k : Nat, k ≤ l.length ∧ i = .int .i64 k ∧ RowV wr w.heap.size (l.length * 3) 107 (celvl (l.take k)) ∧ Below w.heap.size w wr) (fun i _ => l.length - (intOf i).toNat)
  case atStart => exact ⟨0, Nat.zero_le _, rfl, by have h := RowV.new w (madeCells #[.int .i64 0, .bool false, .int .i64 0] (l.length * 3)) 107; rw [size_madeCells] at h; exact h, (Below.refl _ _).alloc (Nat.le_refl _) _⟩
  case round =>
    obtain ⟨k, hk, rfl, hrow, hb⟩ := hrel
    by_cases hlt : k < l.length
    · obtain ⟨b, off, rfl, hbb, hc⟩ := (hv.on hb).cels hlt
      obtain ⟨c0, c1, c2⟩ := hc k hlt
      have HV := Lib.hid hv
      have hg := hrow.lt
      clear hc hv
      have i1 : (k : Int) < (l.length : Int) := by omega
      have i2 : (0 : Int) ≤ (k : Int) := by omega
      go_wp2_with fail
      refine (HT.out l[k] _).mono ?_
      rintro e w1 ⟨rfl, b1⟩
      have hrow1 := hrow.keep (b1.block _ hg)
      have hb1 := hb.trans (b1.mono hb.size)
      obtain ⟨y0, d0⟩ := hrow1.cell (k := k * 3) (by omega)
      obtain ⟨y1, d1⟩ := hrow1.cell (k := k * 3 + 1) (by omega)
      obtain ⟨y2, d2⟩ := hrow1.cell (k := k * 3 + 2) (by omega)
      have f0 := hrow1.frozen (k * 3)
      have f1 := hrow1.frozen (k * 3 + 1)
      have f2 := hrow1.frozen (k * 3 + 2)
      have HR := Lib.hid (hrow1.cel (j := k) (by simp; omega) hlt l[k])
      have HB := Lib.hid (bsCel (i := k * 3) (u1 := .int .i64 (l[k]).a) (u2 := .bool (l[k]).b) (u3 := .int .i64 (l[k]).c) hb1 (Nat.le_refl w.heap.size))
      clear hrow hrow1 hb1 hb b1 c0 c1 c2
      go_wp2
      go_roundw
      case rel => exact ⟨k + 1, by omega, by go_num, by rw [List.take_succ_eq_append_getElem hlt]; exact HR.out, HB.out⟩
      case measure => simp [intOf]; omega
    · go_wp2
      go_ret
      have e : k = l.length := by omega
      subst e
      rw [List.take_length] at hrow
      exact ⟨_, rfl, hrow.rowCel rfl (by omega), hb⟩
theorem szCellS_any (A : Option Addr) (n c : Nat) (m : Int) (w : World) (hn : n ≤ maxLen) (h1 : 0 ≤ m) (h2 : m ≤ 1048576) :
    Calls Tryz.prog 19 #[.slice A n c, .int .i64 m] w fun e w' => w = w' ∧ ((e = .returned (.int .i64 (-1)) ∧ m < n) ∨ (e = .returned (.int .i64 (m - n)) ∧ n ≤ m)) := by
  unfold maxLen at hn
  by_cases h : m - (n : Int) < 0
  · go_enter Tryz.func19, Tryz.ntmps19
    go_wp2
    go_ret
    exact ⟨rfl, .inl ⟨rfl, by omega⟩⟩
  · go_enter Tryz.func19, Tryz.ntmps19
    go_wp2
    go_ret
    exact ⟨rfl, .inr ⟨rfl, by omega⟩⟩
theorem eqCell_same (k : CelD) (w : World) : Calls Tryz.prog 86 #[.agg #[.int .i64 k.a, .bool k.b, .int .i64 k.c], .agg #[.int .i64 k.a, .bool k.b, .int .i64 k.c]] w (SaysBool w true) := by
  go_enter Tryz.func86, Tryz.ntmps86
  go_wp2
  go_ret
  exact ⟨rfl, bal2 _ _ _⟩
theorem CelF.and {w : World} {b o : Nat} {k : CelD} (h : CelF w b o k) {P : Prop} (p : P) : w.cell? ⟨b, o, none⟩ = some (.int .i64 k.a) ∧ w.cell? ⟨b, o + 1, none⟩ = some (.bool k.b) ∧ w.cell? ⟨b, o + 2, none⟩ = some (.int .i64 k.c) ∧ P := ⟨h.1, h.2.1, h.2.2, p⟩
set_option maxHeartbeats 1000000 in
theorem eqCellS_same {t t' : TypeId} (v u : Value) (l : List CelD) (w : World) (hv : Reads w w.heap.size v (celsT t l)) (hu : Reads w w.heap.size u (celsT t' l)) (hn : l.length ≤ 2097152) :
    Calls Tryz.prog 34 #[v, u] w (SaysBool w true) := by
  obtain ⟨A, c, rfl, _, _⟩ := hv.shapeCel
  obtain ⟨A', c', rfl, _, _⟩ := hu.shapeCel
  have HT := Lib.hid eqCell_same
  have HV := Lib.hid hv
  have HU := Lib.hid hu
  clear hv hu
  have hne : (((l.length : Nat) : Int) != ((l.length : Nat) : Int)) = false := by simp
  go_enter Tryz.func34, Tryz.ntmps34
  go_wp2
  go_loopw [5] (fun i wr => ∃ k : Nat, k ≤ l.length ∧ i = .int .i64 k ∧ Below w.heap.size w wr) (fun i _ => l.length - (intOf i).toNat)
  case atStart => exact ⟨0, Nat.zero_le _, rfl, Below.refl _ _⟩
  case round =>
    obtain ⟨k, hk, rfl, hb⟩ := hrel
    by_cases hlt : k < l.length
    · obtain ⟨b, off, rfl, hbb, hc⟩ := (HV.out.on hb).cels hlt
      obtain ⟨b', off', rfl, hbb', hc'⟩ := (HU.out.on hb).cels hlt
      have F := Lib.hid (hc k hlt)
      have F' := Lib.hid (hc' k hlt)
      have i1 : (k : Int) < (l.length : Int) := by omega
      have i2 : (0 : Int) ≤ (k : Int) := by omega
      clear hc hc'
      obtain ⟨c0, c1, c2⟩ := F.out
      obtain ⟨d0, d1, d2⟩ := F'.out
      have HB := Lib.hid hb
      clear hb
      go_wp2
      go_region_held3 (fun W => W.cell? ⟨b, off + k * 3, none⟩ = some (.int .i64 (l[k]).a) ∧ W.cell? ⟨b, off + k * 3 + 1, none⟩ = some (.bool (l[k]).b) ∧ W.cell? ⟨b, off + k * 3 + 2, none⟩ = some (.int .i64 (l[k]).c) ∧ W.cell? ⟨b', off' + k * 3, none⟩ = some (.int .i64 (l[k]).a) ∧ W.cell? ⟨b', off' + k * 3 + 1, none⟩ = some (.bool (l[k]).b) ∧ W.cell? ⟨b', off' + k * 3 + 2, none⟩ = some (.int .i64 (l[k]).c))
        (first | with_reducible exact (F.out.on hbb B8).and (F'.out.on hbb' B8) | with_reducible exact (F.out.on hbb (Below.drew1 _)).and (F'.out.on hbb' (Below.drew1 _)) | exact F.out.and F'.out | fail)
        (first
          | (go_at_call 86; refine (HT.out l[k] _).mono ?_; rintro r w8 ⟨rfl, b8⟩; have B8 := bstep (Below.drew1 _) b8)
          | fail)
      all_goals
        have BC := Lib.hid (bstep HB.out B8)
        clear B8 b8 c0 c1 c2 d0 d1 d2
        go_wp2
        go_roundw
        case rel => exact ⟨k + 1, by omega, by go_num, BC.out⟩
        case measure => simp [intOf]; omega
    · go_wp2
      go_ret
      exact ⟨rfl, hb⟩
theorem celvl_set (l : List CelD) (i : Nat) (k : CelD) (h : i < l.length) : celvl (l.set i k) = (((celvl l).set (i * 3) (.int .i64 k.a)).set (i * 3 + 1) (.bool k.b)).set (i * 3 + 2) (.int .i64 k.c) := by
  induction l generalizing i with
  | nil => simp at h
  | cons x l ih =>
    cases i with
    | zero => simp [celvl_cons, celX]
    | succ i =>
      have h := ih i (by simpa using h)
      rw [List.set_cons_succ, celvl_cons, h, celvl_cons, show (i + 1) * 3 = i * 3 + 1 + 1 + 1 by omega]
      simp [celX]
/-- Block g of w holds the list in a row of room for cap. -/
def RwCel (t : TypeId) (w : World) (g cap : Nat) (l : List CelD) : Prop := Rw w g t 3 l.length cap (celvl l)
theorem RwCel.cs {t : TypeId} {w : World} {g cap : Nat} {l : List CelD} (h : RwCel t w g cap l) {i : Nat} (hi : i < l.length) : ∀ j, j < 3 → ∃ v, w.cell? ⟨g, i * 3 + j, none⟩ = some v := by
  intro j hj
  have hl := celvl_len l
  exact ⟨_, Rw.cell h (i := i * 3 + j) (by omega)⟩
theorem RwCel.set {t : TypeId} {w : World} {g cap : Nat} {l : List CelD} (h : RwCel t w g cap l) {i : Nat} (hi : i < l.length) (k : CelD) : RwCel t (((w.setCell ⟨g, i * 3, none⟩ (.int .i64 k.a)).setCell ⟨g, i * 3 + 1, none⟩ (.bool k.b)).setCell ⟨g, i * 3 + 2, none⟩ (.int .i64 k.c)) g cap (l.set i k) := by
  have h5 := ((Rw.set h (i * 3) (.int .i64 k.a)).set (i * 3 + 1) (.bool k.b)).set (i * 3 + 2) (.int .i64 k.c)
  unfold RwCel
  rw [List.length_set, celvl_set l i k hi]
  exact h5
theorem RwCel.owns {t : TypeId} {w : World} {S : Nat → Prop} {g cap : Nat} {l : List CelD} (h : RwCel t w g cap l) (hS : S g) (hn : l.length ≤ cap) (hc : cap ≤ maxLen) : Owns w S (.slice (some ⟨g, 0, none⟩) l.length cap) (celsT t l) :=
  Rw.owns h hS (by rw [celC_map]; exact lits_own _ _ _) hn hc (cels_len l)
end Go.Proofs.YtpfepcjbhchpcaaGreat
namespace Go.Proofs.YtpfepcjbhchpcaaGreat
open Go.RowKit
set_option maxRecDepth 100000
set_option linter.unusedSimpArgs false
set_option linter.unusedVariables false

theorem toVol_any (k : VolD) (w : World) : Calls Tryz.prog 71 #[.agg #[.string k.a, .int .i64 k.b, .int .i64 k.c, .bool k.d]] w fun e w' => e = .returned (.agg #[.string k.a, .int .i64 k.b, .int .i64 k.c, .bool k.d]) ∧ Below w.heap.size w w' := by
  go_enter Tryz.func71, Tryz.ntmps71
  go_wp2
  refine bodyPost_ret (v := .agg #[.string k.a, .int .i64 k.b, .int .i64 k.c, .bool k.d]) (by simp [results, Tryz.results71, go_sem, *]) rfl ⟨rfl, ?_⟩
  exact bal3 _ _ _ _
theorem RowV.vol {w : World} {g n j : Nat} {e : TypeId} {l : List VolD} (h : RowV w g (n * 4) e (volvl l)) (hj : l.length = j) (hk : j < n) (k : VolD) :
    RowV ((((w.setCell ⟨g, j * 4, none⟩ (.string k.a)).setCell ⟨g, j * 4 + 1, none⟩ (.int .i64 k.b)).setCell ⟨g, j * 4 + 2, none⟩ (.int .i64 k.c)).setCell ⟨g, j * 4 + 3, none⟩ (.bool k.d)) g (n * 4) e (volvl (l ++ [k])) := by
  have hl := volvl_len l
  rw [hj] at hl
  have h1 := h.step (by omega) (.string k.a)
  have h2 := h1.step (by simp; omega) (.int .i64 k.b)
  have h3 := h2.step (by simp; omega) (.int .i64 k.c)
  have h4 := h3.step (by simp; omega) (.bool k.d)
  simp only [List.length_append, List.length_singleton, hl, List.append_assoc] at h4
  rw [volvl_append, volvl_one]
  exact h4
theorem RowV.rowVol {w : World} {g n : Nat} {l : List VolD} (h : RowV w g (n * 4) 110 (volvl l)) (hl : l.length = n) (hn : n ≤ 2097152) : RowVol w g (.slice (some ⟨g, 0, none⟩) n n) l := by
  obtain ⟨cur, hg, hs, hl2, ht⟩ := h
  subst hl
  refine ⟨volvl_len l, .inr ⟨g, l.length, cur, rfl, Nat.le_refl _, hg, Nat.le_refl _, by unfold maxLen; omega, hs, ?_⟩⟩
  rw [← volvl_len l]
  exact ht
theorem bsVol {w w1 : World} {g i : Nat} {u1 u2 u3 u4 : Value} {B : Nat} (h : Below B w w1) (hg : B ≤ g) : Below B w ((((w1.setCell ⟨g, i, none⟩ u1).setCell ⟨g, i + 1, none⟩ u2).setCell ⟨g, i + 2, none⟩ u3).setCell ⟨g, i + 3, none⟩ u4) :=
  (((h.setCell (p := ⟨g, i, none⟩) hg _).setCell (p := ⟨g, i + 1, none⟩) hg _).setCell (p := ⟨g, i + 2, none⟩) hg _).setCell (p := ⟨g, i + 3, none⟩) hg _
theorem toVolS_any (v : Value) (l : List VolD) (w : World) (hv : Reads w w.heap.size v (volsA l)) (hn : l.length ≤ 1048576) : Calls Tryz.prog 28 #[v] w (NewVol w l) := by
  obtain ⟨A, c, rfl, _, _⟩ := hv.shapeVol
  have hmk := run_makeVol l.length l.length (Nat.le_refl _) (by omega)
  have HT := Lib.hid toVol_any
  go_enter Tryz.func28, Tryz.ntmps28
  go_wp2
  go_loopw [4] (fun i wr => ∃ k : Nat, k ≤ l.length ∧ i = .int .i64 k ∧ RowV wr w.heap.size (l.length * 4) 110 (volvl (l.take k)) ∧ Below w.heap.size w wr) (fun i _ => l.length - (intOf i).toNat)
  case atStart => exact ⟨0, Nat.zero_le _, rfl, by have h := RowV.new w (madeCells #[.string ⟨#[]⟩, .int .i64 0, .int .i64 0, .bool false] (l.length * 4)) 110; rw [size_madeCells] at h; exact h, (Below.refl _ _).alloc (Nat.le_refl _) _⟩
  case round =>
    obtain ⟨k, hk, rfl, hrow, hb⟩ := hrel
    by_cases hlt : k < l.length
    · obtain ⟨b, off, rfl, hbb, hc⟩ := (hv.on hb).vols hlt
      obtain ⟨c0, c1, c2, c3⟩ := hc k hlt
      have HV := Lib.hid hv
      have hg := hrow.lt
      clear hc hv
      have i1 : (k : Int) < (l.length : Int) := by omega
      have i2 : (0 : Int) ≤ (k : Int) := by omega
      go_wp2_with fail
      refine (HT.out l[k] _).mono ?_
      rintro e w1 ⟨rfl, b1⟩
      have hrow1 := hrow.keep (b1.block _ hg)
      have hb1 := hb.trans (b1.mono hb.size)
      obtain ⟨y0, d0⟩ := hrow1.cell (k := k * 4) (by omega)
      obtain ⟨y1, d1⟩ := hrow1.cell (k := k * 4 + 1) (by omega)
      obtain ⟨y2, d2⟩ := hrow1.cell (k := k * 4 + 2) (by omega)
      obtain ⟨y3, d3⟩ := hrow1.cell (k := k * 4 + 3) (by omega)
      have f0 := hrow1.frozen (k * 4)
      have f1 := hrow1.frozen (k * 4 + 1)
      have f2 := hrow1.frozen (k * 4 + 2)
      have f3 := hrow1.frozen (k * 4 + 3)
      have HR := Lib.hid (hrow1.vol (j := k) (by simp; omega) hlt l[k])
      have HB := Lib.hid (bsVol (i := k * 4) (u1 := .string (l[k]).a) (u2 := .int .i64 (l[k]).b) (u3 := .int .i64 (l[k]).c) (u4 := .bool (l[k]).d) hb1 (Nat.le_refl w.heap.size))
      clear hrow hrow1 hb1 hb b1 c0 c1 c2 c3
      go_wp2
      go_roundw
      case rel => exact ⟨k + 1, by omega, by go_num, by rw [List.take_succ_eq_append_getElem hlt]; exact HR.out, HB.out⟩
      case measure => simp [intOf]; omega
    · go_wp2
      go_ret
      have e : k = l.length := by omega
      subst e
      rw [List.take_length] at hrow
      exact ⟨_, rfl, hrow.rowVol rfl (by omega), hb⟩
/-- What szVolS counts: the list's length and its names' bytes. -/
def sumV : List VolD → Nat
  | [] => 0
  | k :: l => k.a.size + sumV l
theorem sumV_drop {l : List VolD} {k : Nat} (h : k < l.length) : sumV (l.drop k) = (l[k]).a.size + sumV (l.drop (k + 1)) := by
  rw [vol_drop h, sumV]
theorem szVol_any (k : VolD) (m : Int) (w : World) (hn : k.a.size ≤ maxLen) (h1 : 0 ≤ m) (h2 : m ≤ 1048576) :
    Calls Tryz.prog 54 #[.agg #[.string k.a, .int .i64 k.b, .int .i64 k.c, .bool k.d], .int .i64 m] w fun e w' => Below w.heap.size w w' ∧ ((e = .returned (.int .i64 (-1)) ∧ m < k.a.size) ∨ (e = .returned (.int .i64 (m - k.a.size)) ∧ k.a.size ≤ m)) := by
  unfold maxLen at hn
  by_cases h : m - (k.a.size : Int) < 0
  · go_enter Tryz.func54, Tryz.ntmps54
    go_wp2
    go_ret
    exact ⟨bal1 _ _, .inl ⟨rfl, by omega⟩⟩
  · go_enter Tryz.func54, Tryz.ntmps54
    go_wp2
    go_ret
    exact ⟨bal1 _ _, .inr ⟨rfl, by omega⟩⟩
theorem szVolS_any (v : Value) (l : List VolD) (m : Int) (w : World) (hv : Reads w w.heap.size v (volsA l)) (hs : ∀ k ∈ l, k.a.size ≤ maxLen) (h1 : 0 ≤ m) (h2 : m ≤ 1048576) :
    Calls Tryz.prog 20 #[v, .int .i64 m] w fun e w' => Below w.heap.size w w' ∧ ((e = .returned (.int .i64 (-1)) ∧ m < l.length + sumV l) ∨ (e = .returned (.int .i64 (m - (l.length + sumV l : Nat))) ∧ l.length + sumV l ≤ m)) := by
  obtain ⟨A, c, rfl, hn1, hn2⟩ := hv.shapeVol
  have HN : Hid (l.length ≤ maxLen) := Lib.hid (by omega)
  have hln : l.length ≤ 9223372036854775807 := by have := HN.out; unfold maxLen at this; omega
  have HT := Lib.hid szVol_any
  have HS := Lib.hid hs
  have HV := Lib.hid hv
  clear hv hs hn1 hn2
  by_cases h : m - (l.length : Int) < 0
  · go_enter Tryz.func20, Tryz.ntmps20
    go_wp2
    go_ret
    exact ⟨Below.refl _ _, .inl ⟨rfl, by omega⟩⟩
  · go_enter Tryz.func20, Tryz.ntmps20
    go_wp2
    go_loopw [1, 5] (fun q i wr => ∃ (k : Nat) (x : Int), k ≤ l.length ∧ i = .int .i64 k ∧ q = .int .i64 x ∧ 0 ≤ x ∧ x ≤ 1048576 ∧ Hid (m - (l.length + sumV l : Nat) = x - (sumV (l.drop k) : Nat)) ∧ Below w.heap.size w wr) (fun _ i _ => l.length - (intOf i).toNat)
    case atStart => exact ⟨0, m - l.length, Nat.zero_le _, rfl, rfl, by omega, by omega, Lib.hid (by simp; omega), Below.refl _ _⟩
    case round =>
      obtain ⟨k, x, hk, rfl, rfl, x0, x1, HX, hb⟩ := hrel
      by_cases hlt : k < l.length
      · obtain ⟨b, off, rfl, hbb, hc⟩ := (HV.out.on hb).vols hlt
        obtain ⟨c0, c1, c2, c3⟩ := hc k hlt
        have HD := Lib.hid (sumV_drop hlt)
        have hz := HS.out l[k] (List.getElem_mem hlt)
        have i1 : (k : Int) < (l.length : Int) := by omega
        have i2 : (0 : Int) ≤ (k : Int) := by omega
        clear hc
        go_wp2_with fail
        refine (HT.out l[k] x _ hz x0 x1).mono ?_
        rintro e w1 ⟨b1, ⟨rfl, h5⟩ | ⟨rfl, h5⟩⟩
        · have B1 := Lib.hid (hb.trans (b1.mono hb.size))
          clear hb b1
          go_wp2
          go_ret
          exact ⟨B1.out, .inl ⟨rfl, by have := HX.out; have := HD.out; omega⟩⟩
        · have B1 := Lib.hid (hb.trans (b1.mono hb.size))
          have i3 : ¬ (x - ((l[k]).a.size : Int) < 0) := by omega
          clear hb b1
          go_wp2
          go_roundw
          case rel => exact ⟨k + 1, x - ((l[k]).a.size : Int), by omega, by go_num, rfl, by omega, by omega, Lib.hid (by have := HX.out; have := HD.out; omega), B1.out⟩
          case measure => simp [intOf]; omega
      · have e : k = l.length := by omega
        subst e
        have H2 : Hid (m - (l.length + sumV l : Nat) = x) := Lib.hid (by have := HX.out; simp [sumV] at this; simp; omega)
        go_wp2
        go_ret
        exact ⟨hb, .inr ⟨by rw [H2.out]; rfl, by have := H2.out; omega⟩⟩
theorem eqVol_same (k : VolD) (w : World) : Calls Tryz.prog 87 #[.agg #[.string k.a, .int .i64 k.b, .int .i64 k.c, .bool k.d], .agg #[.string k.a, .int .i64 k.b, .int .i64 k.c, .bool k.d]] w (SaysBool w true) := by
  go_enter Tryz.func87, Tryz.ntmps87
  go_wp2
  go_ret
  exact ⟨rfl, bal2 _ _ _⟩
theorem VolF.and {w : World} {b o : Nat} {k : VolD} (h : VolF w b o k) {P : Prop} (p : P) : w.cell? ⟨b, o, none⟩ = some (.string k.a) ∧ w.cell? ⟨b, o + 1, none⟩ = some (.int .i64 k.b) ∧ w.cell? ⟨b, o + 2, none⟩ = some (.int .i64 k.c) ∧ w.cell? ⟨b, o + 3, none⟩ = some (.bool k.d) ∧ P := ⟨h.1, h.2.1, h.2.2.1, h.2.2.2, p⟩
set_option maxHeartbeats 1000000 in
theorem eqVolS_same {t t' : TypeId} (v u : Value) (l : List VolD) (w : World) (hv : Reads w w.heap.size v (volsT t l)) (hu : Reads w w.heap.size u (volsT t' l)) (hn : l.length ≤ 2097152) :
    Calls Tryz.prog 35 #[v, u] w (SaysBool w true) := by
  obtain ⟨A, c, rfl, _, _⟩ := hv.shapeVol
  obtain ⟨A', c', rfl, _, _⟩ := hu.shapeVol
  have HT := Lib.hid eqVol_same
  have HV := Lib.hid hv
  have HU := Lib.hid hu
  clear hv hu
  have hne : (((l.length : Nat) : Int) != ((l.length : Nat) : Int)) = false := by simp
  go_enter Tryz.func35, Tryz.ntmps35
  go_wp2
  go_loopw [5] (fun i wr => ∃ k : Nat, k ≤ l.length ∧ i = .int .i64 k ∧ Below w.heap.size w wr) (fun i _ => l.length - (intOf i).toNat)
  case atStart => exact ⟨0, Nat.zero_le _, rfl, Below.refl _ _⟩
  case round =>
    obtain ⟨k, hk, rfl, hb⟩ := hrel
    by_cases hlt : k < l.length
    · obtain ⟨b, off, rfl, hbb, hc⟩ := (HV.out.on hb).vols hlt
      obtain ⟨b', off', rfl, hbb', hc'⟩ := (HU.out.on hb).vols hlt
      have F := Lib.hid (hc k hlt)
      have F' := Lib.hid (hc' k hlt)
      have i1 : (k : Int) < (l.length : Int) := by omega
      have i2 : (0 : Int) ≤ (k : Int) := by omega
      clear hc hc'
      obtain ⟨c0, c1, c2, c3⟩ := F.out
      obtain ⟨d0, d1, d2, d3⟩ := F'.out
      have HB := Lib.hid hb
      clear hb
      go_wp2
      go_region_held3 (fun W => W.cell? ⟨b, off + k * 4, none⟩ = some (.string (l[k]).a) ∧ W.cell? ⟨b, off + k * 4 + 1, none⟩ = some (.int .i64 (l[k]).b) ∧ W.cell? ⟨b, off + k * 4 + 2, none⟩ = some (.int .i64 (l[k]).c) ∧ W.cell? ⟨b, off + k * 4 + 3, none⟩ = some (.bool (l[k]).d) ∧ W.cell? ⟨b', off' + k * 4, none⟩ = some (.string (l[k]).a) ∧ W.cell? ⟨b', off' + k * 4 + 1, none⟩ = some (.int .i64 (l[k]).b) ∧ W.cell? ⟨b', off' + k * 4 + 2, none⟩ = some (.int .i64 (l[k]).c) ∧ W.cell? ⟨b', off' + k * 4 + 3, none⟩ = some (.bool (l[k]).d))
        (first | with_reducible exact (F.out.on hbb B8).and (F'.out.on hbb' B8) | with_reducible exact (F.out.on hbb (Below.drew1 _)).and (F'.out.on hbb' (Below.drew1 _)) | exact F.out.and F'.out | fail)
        (first
          | (go_at_call 87; refine (HT.out l[k] _).mono ?_; rintro r w8 ⟨rfl, b8⟩; have B8 := bstep (Below.drew1 _) b8)
          | fail)
      all_goals
        have BC := Lib.hid (bstep HB.out B8)
        clear B8 b8 c0 c1 c2 c3 d0 d1 d2 d3
        go_wp2
        go_roundw
        case rel => exact ⟨k + 1, by omega, by go_num, BC.out⟩
        case measure => simp [intOf]; omega
    · go_wp2
      go_ret
      exact ⟨rfl, hb⟩
theorem volvl_set (l : List VolD) (i : Nat) (k : VolD) (h : i < l.length) : volvl (l.set i k) = ((((volvl l).set (i * 4) (.string k.a)).set (i * 4 + 1) (.int .i64 k.b)).set (i * 4 + 2) (.int .i64 k.c)).set (i * 4 + 3) (.bool k.d) := by
  induction l generalizing i with
  | nil => simp at h
  | cons x l ih =>
    cases i with
    | zero => simp [volvl_cons, volX]
    | succ i =>
      have h := ih i (by simpa using h)
      rw [List.set_cons_succ, volvl_cons, h, volvl_cons, show (i + 1) * 4 = i * 4 + 1 + 1 + 1 + 1 by omega]
      simp [volX]
/-- Block g of w holds the list in a row of room for cap. -/
def RwVol (t : TypeId) (w : World) (g cap : Nat) (l : List VolD) : Prop := Rw w g t 4 l.length cap (volvl l)
theorem RwVol.cs {t : TypeId} {w : World} {g cap : Nat} {l : List VolD} (h : RwVol t w g cap l) {i : Nat} (hi : i < l.length) : ∀ j, j < 4 → ∃ v, w.cell? ⟨g, i * 4 + j, none⟩ = some v := by
  intro j hj
  have hl := volvl_len l
  exact ⟨_, Rw.cell h (i := i * 4 + j) (by omega)⟩
theorem RwVol.set {t : TypeId} {w : World} {g cap : Nat} {l : List VolD} (h : RwVol t w g cap l) {i : Nat} (hi : i < l.length) (k : VolD) : RwVol t ((((w.setCell ⟨g, i * 4, none⟩ (.string k.a)).setCell ⟨g, i * 4 + 1, none⟩ (.int .i64 k.b)).setCell ⟨g, i * 4 + 2, none⟩ (.int .i64 k.c)).setCell ⟨g, i * 4 + 3, none⟩ (.bool k.d)) g cap (l.set i k) := by
  have h5 := (((Rw.set h (i * 4) (.string k.a)).set (i * 4 + 1) (.int .i64 k.b)).set (i * 4 + 2) (.int .i64 k.c)).set (i * 4 + 3) (.bool k.d)
  unfold RwVol
  rw [List.length_set, volvl_set l i k hi]
  exact h5
theorem RwVol.owns {t : TypeId} {w : World} {S : Nat → Prop} {g cap : Nat} {l : List VolD} (h : RwVol t w g cap l) (hS : S g) (hn : l.length ≤ cap) (hc : cap ≤ maxLen) : Owns w S (.slice (some ⟨g, 0, none⟩) l.length cap) (volsT t l) :=
  Rw.owns h hS (by rw [volC_map]; exact lits_own _ _ _) hn hc (vols_len l)
end Go.Proofs.YtpfepcjbhchpcaaGreat
namespace Go.Proofs.YtpfepcjbhchpcaaGreat
open Go.RowKit Go.ChangeShapes Go.WideShapes Go.Deep
set_option maxRecDepth 100000
set_option linter.unusedSimpArgs false
set_option linter.unusedVariables false

structure AgeD where
  (a b : Int)
  deriving DecidableEq
def AgeD.v (k : AgeD) : Value := .agg #[.int .i64 k.a, .int .i64 k.b]
def gC (k : AgeD) : List Dat := [.lit (.int .i64 k.a), .lit (.int .i64 k.b)]
def gX (k : AgeD) : List Value := [.int .i64 k.a, .int .i64 k.b]
theorem gC_len (k : AgeD) : (gC k).length = 2 := rfl
def agesD (l : List AgeD) : Dat := .row 61 2 l.length (l.flatMap gC)
def agesA (l : List AgeD) : Dat := .row 105 2 l.length (l.flatMap gC)
def gvl (l : List AgeD) : List Value := l.flatMap gX
theorem gvl_cons (k : AgeD) (l : List AgeD) : gvl (k :: l) = gX k ++ gvl l := rfl
theorem gvl_len (l : List AgeD) : (gvl l).length = l.length * 2 := by
  induction l with
  | nil => rfl
  | cons k l ih =>
    rw [gvl_cons, List.length_append, ih]
    simp [gX, Nat.add_mul]; omega
theorem gvl_append (l m : List AgeD) : gvl (l ++ m) = gvl l ++ gvl m := by simp [gvl]
theorem gvl_one (k : AgeD) : gvl [k] = gX k := by simp [gvl]
theorem ages_len (l : List AgeD) : (l.flatMap gC).length = l.length * 2 := flat_len gC 2 l gC_len
theorem gC_map (l : List AgeD) : l.flatMap gC = (gvl l).map Dat.lit := by
  induction l with
  | nil => rfl
  | cons k l ih =>
    rw [gvl_cons, List.map_append, ← ih]
    rfl
theorem gdrop_at {l : List AgeD} {k : Nat} (h : k < l.length) : l.drop k = l[k] :: l.drop (k + 1) := List.drop_eq_getElem_cons h
/-- The two cells from place o of block b on hold the version k. -/
abbrev Two (w : World) (b o : Nat) (k : AgeD) : Prop := w.cell? ⟨b, o, none⟩ = some (.int .i64 k.a) ∧ w.cell? ⟨b, o + 1, none⟩ = some (.int .i64 k.b)
theorem Two.keep {w w' : World} {b o : Nat} {k : AgeD} (h : Two w b o k) (hb : w'.heap[b]? = w.heap[b]?) : Two w' b o k :=
  ⟨(World.cell?_of_block (a := ⟨b, o, none⟩) hb).trans h.1, (World.cell?_of_block (a := ⟨b, o + 1, none⟩) hb).trans h.2⟩
theorem Two.on {w w' : World} {b o : Nat} {k : AgeD} (h : Two w b o k) (hlt : b < w.heap.size) (hb : Below w.heap.size w w') : Two w' b o k := h.keep (hb.block b hlt)
theorem Reads.ages {w : World} {B : Nat} {A : Option Addr} {e n cap : Nat} {l : List AgeD} (h : Reads w B (.slice A n cap) (.row e 2 l.length (l.flatMap gC))) {i : Nat} (hi : i < l.length) :
    ∃ b off, A = some ⟨b, off, none⟩ ∧ b < B ∧ ∀ k (hk : k < l.length), Two w b (off + k * 2) l[k] := by
  obtain ⟨A', cap', hv, hn, hc, hl, _, k⟩ := h.row'
  cases hv
  rcases k with h | ⟨b, off, xs, rfl, hb, hx, hcell, hr⟩
  · have := congrArg List.length h
    rw [ages_len] at this; simp only [List.length_nil] at this; omega
  · refine ⟨b, off, rfl, hb, fun k hk => ?_⟩
    rw [ages_len] at hx
    have get : ∀ j, j < 2 → ∃ x c, w.cell? ⟨b, off + (k * 2 + j), none⟩ = some x ∧ (gC l[k])[j]? = some c ∧ Reads w B x c := by
      intro j hj
      have hlt := flat_lt (z := 2) hk hj
      have h1 := hr (k * 2 + j) (by omega) (by rw [ages_len]; omega)
      have h2 := hcell (k * 2 + j) (by omega)
      have h3 := flat_get gC 2 l gC_len k j hk hj
      rw [List.getElem?_eq_getElem (by rw [ages_len]; omega)] at h3
      exact ⟨_, _, h2, h3.symm, h1⟩
    obtain ⟨x0, c0, a0, b0, r0⟩ := get 0 (by omega)
    obtain ⟨x1, c1, a1, b1, r1⟩ := get 1 (by omega)
    simp [gC] at b0 b1
    subst b0 b1
    cases r0
    cases r1
    exact ⟨a0, a1⟩
theorem Reads.shapeG {w : World} {B : Nat} {v : Value} {e : TypeId} {l : List AgeD} (h : Reads w B v (.row e 2 l.length (l.flatMap gC))) : ∃ A cap, v = .slice A l.length cap ∧ l.length ≤ cap ∧ cap ≤ maxLen := by
  obtain ⟨A, cap, hv, hn, hc, _⟩ := h.row'
  exact ⟨A, cap, hv, hn, hc⟩
theorem Reads.atG {w : World} {B : Nat} {A : Option Addr} {e n cap : Nat} {l : List AgeD} (h : Reads w B (.slice A n cap) (.row e 2 l.length (l.flatMap gC))) : At w A (gvl l) := by
  obtain ⟨A', cap', hv, hn, hc, hl, _, k⟩ := h.row'
  cases hv
  rcases k with h | ⟨b, off, xs, rfl, hb, hx, hcell, hr⟩
  · left
    have := congrArg List.length h
    rw [ages_len] at this
    exact List.length_eq_zero_iff.1 (by rw [gvl_len]; simpa using this)
  · right
    refine ⟨b, off, rfl, ?_⟩
    have : xs = gvl l := lit_reads (by rw [hx, ages_len, gvl_len]) (by rw [← gC_map]; exact hr)
    subst this
    exact hcell
/-- The first N elements of a row read as the first N of the list. -/
theorem Reads.takeG {w : World} {B : Nat} {A : Option Addr} {e c : Nat} {l : List AgeD} (h : Reads w B (.slice A l.length c) (.row e 2 l.length (l.flatMap gC))) (N : Nat) (hN : N ≤ l.length) : Reads w B (.slice A N c) (.row e 2 (l.take N).length ((l.take N).flatMap gC)) := by
  have hl : (l.take N).length = N := by simp; omega
  rw [hl]
  obtain ⟨A', cap', hv, hn, hc, hll, _, k⟩ := h.row'
  cases hv
  refine Reads.ofBytes (xs := gvl (l.take N)) (by omega) hc (by rw [ages_len, hl]) (by omega) ?_
  by_cases h0 : N = 0
  · left; subst h0; simp
  · right
    obtain ⟨b, off, rfl, hb, ht⟩ := h.ages (i := 0) (by omega)
    refine ⟨b, off, rfl, hb, by rw [gvl_len, ages_len], fun i hi => ?_, fun i hi h' => ?_⟩
    · have hat := h.atG
      rcases hat with h1 | ⟨b', off', he, hcell⟩
      · have := congrArg List.length h1
        rw [gvl_len] at this; simp at this; omega
      · cases he
        have he2 : gvl l = gvl (l.take N) ++ gvl (l.drop N) := by rw [← gvl_append, List.take_append_drop]
        have hlt : i < (gvl l).length := by rw [he2, List.length_append]; omega
        rw [hcell i hlt]
        simp only [he2, List.getElem_append_left hi]
    · simp only [gC_map, List.getElem_map]
      exact .lit _
/-- A row of versions of the call's own, nil or in a block from base on. -/
def RowG (w : World) (base : Nat) (v : Value) (l : List AgeD) : Prop := w.ownsRow base 61 2 v l.length (gvl l)
theorem RowG.owns {w : World} {base : Nat} {v : Value} {l : List AgeD} (h : RowG w base v l) : Owns w (fun b => base ≤ b) v (agesD l) := by
  refine row_owns (h : w.ownsRow _ _ _ _ _ _) ?_ (ages_len l)
  rw [gC_map]
  exact lits_own _ _ _
theorem Owns.rowG {w : World} {S : Nat → Prop} {v : Value} {l : List AgeD} (h : Owns w S v (agesD l)) {base : Nat} (hS : ∀ b, S b → base ≤ b) : RowG w base v l := by
  rcases h.row' with ⟨rfl, h, _⟩ | ⟨g, cap, cur, xs, rfl, hg, hh, hn, hc, hs, hl, hx, ho⟩
  · have : l = [] := List.length_eq_zero_iff.1 h
    subst this
    exact row_nil _ _ _ _
  · have hr := ho.reads
    rw [gC_map] at hr
    have : xs = gvl l := lit_reads (by rw [hr.1]; simp) hr.2
    subst this
    exact ⟨gvl_len l, .inr ⟨g, cap, cur, rfl, hS g hg, hh, hn, hc, hs, hx⟩⟩
theorem RowG.shape {w : World} {base : Nat} {v : Value} {l : List AgeD} (h : RowG w base v l) : ∃ A cap, v = .slice A l.length cap ∧ l.length ≤ cap ∧ cap ≤ maxLen := h.owns.reads.shapeG
theorem RowG.on {w w' : World} {base : Nat} {v : Value} {l : List AgeD} (h : RowG w base v l) (hb : Below w.heap.size w w') : RowG w' base v l := row_on (h : w.ownsRow _ _ _ _ _ _) hb
theorem RowG.keep {w w' : World} {base : Nat} {v : Value} {l : List AgeD} (h : RowG w base v l) (hk : ∀ g, v.ownBlock = some g → w'.heap[g]? = w.heap[g]?) : RowG w' base v l := row_keep (h : w.ownsRow _ _ _ _ _ _) hk
theorem RowG.lt {w : World} {base : Nat} {v : Value} {l : List AgeD} (h : RowG w base v l) : ∀ g, v.ownBlock = some g → g < w.heap.size ∧ base ≤ g := row_lt (h : w.ownsRow _ _ _ _ _ _)
theorem RowG.mono {w : World} {base base' : Nat} {v : Value} {l : List AgeD} (h : RowG w base v l) (hb : base' ≤ base) : RowG w base' v l := h.owns.rowG (fun b hb' => by omega)
/-- A store into a block ahead of the row's. -/
theorem RowG.set {w : World} {base g j : Nat} {v u : Value} {l : List AgeD} (h : RowG w base v l) (hg : g < base) : RowG (w.setCell ⟨g, j, none⟩ u) base v l := h.keep (fun k hk => Below.heap_setCell _ _ _ _ (by have := (h.lt k hk).2; simp; omega))
theorem age_info : (Tryz.prog.info? 61).map (fun i => (i.zero, i.size, i.bytes)) = some (some (.agg #[.int .i64 0, .int .i64 0]), 2, 16) := by kernel_rfl
theorem run_makeAges (n m : Nat) (hn : n ≤ m) (hm : m ≤ 2097152) (w : World) :
    (Instr.makeSlice 37 (.int .i64 (n : Int)) (.int .i64 (m : Int))).run Tryz.prog w = .ok (.slice (some ⟨w.heap.size, 0, none⟩) n m) (w.alloc (.cells (madeCells #[.int .i64 0, .int .i64 0] (m * 2)) 61)) := by
  obtain ⟨i, hi, h0, h1, h2⟩ := info_parts age_info
  have hr := run_make (P := Tryz.prog) w 37 61 i (.agg #[.int .i64 0, .int .i64 0]) Tryz.underlying37 hi h0 .i64 .i64 n m (by omega) (by omega) (by rw [h2]; omega) (by omega)
  simp only [Int.toNat_natCast, h1] at hr
  exact hr
theorem RowG.made (w : World) (m : Nat) (hm : m ≤ 2097152) : RowG (w.alloc (.cells (madeCells #[.int .i64 0, .int .i64 0] (m * 2)) 61)) w.heap.size (.slice (some ⟨w.heap.size, 0, none⟩) 0 m) [] :=
  ⟨rfl, .inr ⟨w.heap.size, m, _, rfl, Nat.le_refl _, heap_alloc_new w _, Nat.zero_le _, by unfold maxLen; omega, by rw [size_madeCells], rfl⟩⟩
theorem RowG.lit (w : World) : RowG (w.alloc (.cells #[] 61)) w.heap.size (.slice (some ⟨w.heap.size, 0, none⟩) 0 0) [] := row_lit w 61 2
theorem At.age (w : World) (k : AgeD) (e : TypeId) : At (w.alloc (.cells #[.int .i64 k.a, .int .i64 k.b] e)) (some ⟨w.heap.size, 0, none⟩) (gvl [k]) := by
  refine .inr ⟨w.heap.size, 0, rfl, fun i hi => ?_⟩
  rw [cell_of_row _ _ _ _ _ _ (heap_alloc_new w _)]
  simp only [gvl_one, gX, List.length_cons, List.length_nil] at hi ⊢
  match i, hi with
  | 0, _ => rfl
  | 1, _ => rfl
theorem At.takeG {w : World} {A : Option Addr} {l : List AgeD} (h : At w A (gvl l)) (N : Nat) : At w A (gvl (l.take N)) := by
  rcases h with h | ⟨b, off, rfl, hc⟩
  · left
    have : l = [] := by
      have := congrArg List.length h
      rw [gvl_len] at this
      exact List.length_eq_zero_iff.1 (by simp at this; omega)
    subst this
    simp [gvl]
  · right
    have he : gvl l = gvl (l.take N) ++ gvl (l.drop N) := by rw [← gvl_append, List.take_append_drop]
    refine ⟨b, off, rfl, fun i hi => ?_⟩
    have hlt : i < (gvl l).length := by rw [he, List.length_append]; omega
    rw [hc i hlt]
    simp only [he, List.getElem_append_left hi]
/-- A call leaves a row of versions in memory of its own. -/
def NewG (w : World) (l : List AgeD) (e : Ending) (w' : World) : Prop := ∃ v, e = .returned v ∧ RowG w' w.heap.size v l ∧ Below w.heap.size w w'
/-- A row of ints of the call's own. -/
def RowI (w : World) (base : Nat) (v : Value) (l : List Int) : Prop := w.ownsRow base 3 1 v l.length (l.map iV)
theorem RowI.owns {w : World} {base : Nat} {v : Value} {l : List Int} (h : RowI w base v l) : Owns w (fun b => base ≤ b) v (intsD l) := by
  refine row_owns (h : w.ownsRow _ _ _ _ _ _) ?_ (by simp)
  have := lits_own w (fun b => base ≤ b ∧ v.ownBlock ≠ some b) (l.map iV)
  rwa [List.map_map] at this
theorem RowI.on {w w' : World} {base : Nat} {v : Value} {l : List Int} (h : RowI w base v l) (hb : Below w.heap.size w w') : RowI w' base v l := row_on (h : w.ownsRow _ _ _ _ _ _) hb
theorem RowI.lt {w : World} {base : Nat} {v : Value} {l : List Int} (h : RowI w base v l) : ∀ g, v.ownBlock = some g → g < w.heap.size ∧ base ≤ g := row_lt (h : w.ownsRow _ _ _ _ _ _)
theorem RowI.shape {w : World} {base : Nat} {v : Value} {l : List Int} (h : RowI w base v l) : ∃ A cap, v = .slice A l.length cap ∧ l.length ≤ cap ∧ cap ≤ maxLen := by
  obtain ⟨A, cap, hv, hn, hc, _⟩ := h.owns.reads.row'
  exact ⟨A, cap, hv, hn, hc⟩
theorem RowI.lit (w : World) : RowI (w.alloc (.cells #[] 3)) w.heap.size (.slice (some ⟨w.heap.size, 0, none⟩) 0 0) [] := row_lit w 3 1
theorem int_info7 : (Tryz.prog.info? 3).map (fun i => (i.zero, i.size, i.bytes)) = some (some (.int .i64 0), 1, 8) := by kernel_rfl
theorem wpList_appI {ops : Array Oper} {rest : List Oper} {o : Oper} {a : Act} {Q : Exit → Act → World → Prop} (w : World) (hgd : o.guard = none) (s x : Operand)
    (hop : o.op = .call { callee := .builtin .append, args := #[s, x], argTypes := #[22, 22] })
    (base : Nat) (v : Value) (l : List Int) (hs : a.eval s = v) (hown : RowI w base v l) (A : Option Addr) (n c : Nat) (m : List Int) (hx : a.eval x = .slice A n c) (hmn : m.length = n) (hA : At w A (m.map iV)) (hlen : l.length + m.length ≤ 1073741824) (hbase : base ≤ w.heap.size)
    (h : ∀ v' w', RowI w' base v' (l ++ m) → Below base w w' → wpList Tryz.prog ops Q rest (a.put o.dst v') w') : wpList Tryz.prog ops Q (o :: rest) a w := by
  subst hmn
  refine wpList_appV w hgd s x 22 3 1 8 (.int .i64 0) hop Tryz.underlying22 int_info7 rfl (by omega) (by omega) base l.length v (l.map iV) hs hown A m.length c (m.map iV) hx (by simp) hA (by intro u hu; simp only [List.mem_map] at hu; obtain ⟨n, _, rfl⟩ := hu; rfl) hlen hbase ?_
  intro v' w' h2 h3 h4 h5
  refine h v' w' ?_ ?_
  · rw [← List.map_append, ← List.length_append] at h2
    exact h2
  · exact (Below.refl _ _).grown h3 hbase (fun k hk => (hown.lt k hk).2)
theorem At.intOne (w : World) (n : Int) (e : TypeId) : At (w.alloc (.cells #[.int .i64 n] e)) (some ⟨w.heap.size, 0, none⟩) ([n].map iV) := by
  refine .inr ⟨w.heap.size, 0, rfl, fun i hi => ?_⟩
  rw [cell_of_row _ _ _ _ _ _ (heap_alloc_new w _)]
  simp only [List.map_cons, List.map_nil, List.length_cons, List.length_nil] at hi ⊢
  match i, hi with
  | 0, _ => rfl
def NewI (w : World) (l : List Int) (e : Ending) (w' : World) : Prop := ∃ v, e = .returned v ∧ RowI w' w.heap.size v l ∧ Below w.heap.size w w'
theorem age_opens : Opens Tryz.prog 105 (fun ds => ∃ k : AgeD, ds = gC k) := by
  have h := Opens.struct (P := Tryz.prog) Tryz.underlying105 (by kernel_rfl) (List.replicate 2 (fun ds => ∃ n, ds = [Dat.lit (.int .i64 n)] ∧ (Lit.int .i64 n).wf = true)) rfl (fun i hi => by
    match i, hi with
    | 0, _ => exact Opens.int Tryz.underlying3
    | 1, _ => exact Opens.int Tryz.underlying3)
  refine h.weaken (fun ds ⟨dss, hd, hC, hds⟩ => ?_)
  match dss, hd with
  | [a, b], _ =>
    obtain ⟨n0, h0, _⟩ := hC 0 (by simp)
    obtain ⟨n1, h1, _⟩ := hC 1 (by simp)
    simp at h0 h1
    subst h0 h1
    exact ⟨⟨n0, n1⟩, by rw [hds]; rfl⟩
theorem ages_opens : Opens Tryz.prog 26 (fun ds => ∃ l, ds = [agesA l]) :=
  (Opens.slice (z := 2) gC gC_len (by omega) Tryz.underlying26 (by kernel_rfl) age_opens 105).weaken (fun ds ⟨l, hl⟩ => ⟨l, hl⟩)
end Go.Proofs.YtpfepcjbhchpcaaGreat
namespace Go.Proofs.YtpfepcjbhchpcaaGreat
open Go.RowKit
set_option maxRecDepth 100000
set_option linter.unusedSimpArgs false
set_option linter.unusedVariables false

theorem toAge_any (k : AgeD) (w : World) : Calls Tryz.prog 69 #[.agg #[.int .i64 k.a, .int .i64 k.b]] w fun e w' => e = .returned (.agg #[.int .i64 k.a, .int .i64 k.b]) ∧ Below w.heap.size w w' := by
  go_enter Tryz.func69, Tryz.ntmps69
  go_wp2
  refine bodyPost_ret (v := .agg #[.int .i64 k.a, .int .i64 k.b]) (by simp [results, Tryz.results69, go_sem, *]) rfl ⟨rfl, ?_⟩
  exact bal3 _ _ _ _
theorem RowV.age {w : World} {g n j : Nat} {e : TypeId} {l : List AgeD} (h : RowV w g (n * 2) e (gvl l)) (hj : l.length = j) (hk : j < n) (k : AgeD) :
    RowV ((w.setCell ⟨g, j * 2, none⟩ (.int .i64 k.a)).setCell ⟨g, j * 2 + 1, none⟩ (.int .i64 k.b)) g (n * 2) e (gvl (l ++ [k])) := by
  have hl := gvl_len l
  rw [hj] at hl
  have h1 := h.step (by omega) (.int .i64 k.a)
  have h2 := h1.step (by simp; omega) (.int .i64 k.b)
  simp only [List.length_append, List.length_singleton, hl, List.append_assoc] at h2
  rw [gvl_append, gvl_one]
  exact h2
theorem RowV.rowG {w : World} {g n : Nat} {l : List AgeD} (h : RowV w g (n * 2) 61 (gvl l)) (hl : l.length = n) (hn : n ≤ 2097152) : RowG w g (.slice (some ⟨g, 0, none⟩) n n) l := by
  obtain ⟨cur, hg, hs, hl2, ht⟩ := h
  subst hl
  refine ⟨gvl_len l, .inr ⟨g, l.length, cur, rfl, Nat.le_refl _, hg, Nat.le_refl _, by unfold maxLen; omega, hs, ?_⟩⟩
  rw [← gvl_len l]
  exact ht
theorem bs2 {w w1 : World} {g i : Nat} {u1 u2 : Value} {B : Nat} (h : Below B w w1) (hg : B ≤ g) : Below B w ((w1.setCell ⟨g, i, none⟩ u1).setCell ⟨g, i + 1, none⟩ u2) :=
  (h.setCell (p := ⟨g, i, none⟩) hg _).setCell (p := ⟨g, i + 1, none⟩) hg _
theorem toAgeS_any (v : Value) (l : List AgeD) (w : World) (hv : Reads w w.heap.size v (agesA l)) (hn : l.length ≤ 1048576) : Calls Tryz.prog 26 #[v] w (NewG w l) := by
  obtain ⟨A, c, rfl, _, _⟩ := hv.shapeG
  have hmk := run_makeAges l.length l.length (Nat.le_refl _) (by omega)
  have HT := Lib.hid toAge_any
  go_enter Tryz.func26, Tryz.ntmps26
  go_wp2
  go_loopw [4] (fun i wr => ∃ k : Nat, k ≤ l.length ∧ i = .int .i64 k ∧ RowV wr w.heap.size (l.length * 2) 61 (gvl (l.take k)) ∧ Below w.heap.size w wr) (fun i _ => l.length - (intOf i).toNat)
  case atStart => exact ⟨0, Nat.zero_le _, rfl, by have h := RowV.new w (madeCells #[.int .i64 0, .int .i64 0] (l.length * 2)) 61; rw [size_madeCells] at h; exact h, (Below.refl _ _).alloc (Nat.le_refl _) _⟩
  case round =>
    obtain ⟨k, hk, rfl, hrow, hb⟩ := hrel
    by_cases hlt : k < l.length
    · obtain ⟨b, off, rfl, hbb, hc⟩ := (hv.on hb).ages hlt
      obtain ⟨c0, c1⟩ := hc k hlt
      have HV := Lib.hid hv
      have hg := hrow.lt
      clear hc hv
      have i1 : (k : Int) < (l.length : Int) := by omega
      have i2 : (0 : Int) ≤ (k : Int) := by omega
      go_wp2_with fail
      refine (HT.out l[k] _).mono ?_
      rintro e w1 ⟨rfl, b1⟩
      have hrow1 := hrow.keep (b1.block _ hg)
      have hb1 := hb.trans (b1.mono hb.size)
      obtain ⟨y0, d0⟩ := hrow1.cell (k := k * 2) (by omega)
      obtain ⟨y1, d1⟩ := hrow1.cell (k := k * 2 + 1) (by omega)
      have f0 := hrow1.frozen (k * 2)
      have f1 := hrow1.frozen (k * 2 + 1)
      have HR := Lib.hid (hrow1.age (j := k) (by simp; omega) hlt l[k])
      have HB := Lib.hid (bs2 (i := k * 2) (u1 := .int .i64 (l[k]).a) (u2 := .int .i64 (l[k]).b) hb1 (Nat.le_refl w.heap.size))
      clear hrow hrow1 hb1 hb b1 c0 c1
      go_wp2
      go_roundw
      case rel => exact ⟨k + 1, by omega, by go_num, by rw [List.take_succ_eq_append_getElem hlt]; exact HR.out, HB.out⟩
      case measure => simp [intOf]; omega
    · go_wp2
      go_ret
      have e : k = l.length := by omega
      subst e
      rw [List.take_length] at hrow
      exact ⟨_, rfl, hrow.rowG rfl (by omega), hb⟩
theorem szAgeS_any (A : Option Addr) (n c : Nat) (m : Int) (w : World) (hn : n ≤ maxLen) (h1 : 0 ≤ m) (h2 : m ≤ 1048576) :
    Calls Tryz.prog 18 #[.slice A n c, .int .i64 m] w fun e w' => w = w' ∧ ((e = .returned (.int .i64 (-1)) ∧ m < n) ∨ (e = .returned (.int .i64 (m - n)) ∧ n ≤ m)) := by
  unfold maxLen at hn
  by_cases h : m - (n : Int) < 0
  · go_enter Tryz.func18, Tryz.ntmps18
    go_wp2
    go_ret
    exact ⟨rfl, .inl ⟨rfl, by omega⟩⟩
  · go_enter Tryz.func18, Tryz.ntmps18
    go_wp2
    go_ret
    exact ⟨rfl, .inr ⟨rfl, by omega⟩⟩
theorem eqAge_same (k : AgeD) (w : World) : Calls Tryz.prog 85 #[.agg #[.int .i64 k.a, .int .i64 k.b], .agg #[.int .i64 k.a, .int .i64 k.b]] w (SaysBool w true) := by
  go_enter Tryz.func85, Tryz.ntmps85
  go_wp2
  go_ret
  exact ⟨rfl, bal2 _ _ _⟩
theorem Two.and {w : World} {b o : Nat} {k : AgeD} (h : Two w b o k) {P : Prop} (p : P) : w.cell? ⟨b, o, none⟩ = some (.int .i64 k.a) ∧ w.cell? ⟨b, o + 1, none⟩ = some (.int .i64 k.b) ∧ P := ⟨h.1, h.2, p⟩
set_option maxHeartbeats 1000000 in
theorem eqAgeS_same (v u : Value) (l : List AgeD) (w : World) (hv : Reads w w.heap.size v (agesD l)) (hu : Reads w w.heap.size u (agesD l)) (hn : l.length ≤ 2097152) :
    Calls Tryz.prog 33 #[v, u] w (SaysBool w true) := by
  obtain ⟨A, c, rfl, _, _⟩ := hv.shapeG
  obtain ⟨A', c', rfl, _, _⟩ := hu.shapeG
  have HT := Lib.hid eqAge_same
  have HV := Lib.hid hv
  have HU := Lib.hid hu
  clear hv hu
  have hne : (((l.length : Nat) : Int) != ((l.length : Nat) : Int)) = false := by simp
  go_enter Tryz.func33, Tryz.ntmps33
  go_wp2
  go_loopw [5] (fun i wr => ∃ k : Nat, k ≤ l.length ∧ i = .int .i64 k ∧ Below w.heap.size w wr) (fun i _ => l.length - (intOf i).toNat)
  case atStart => exact ⟨0, Nat.zero_le _, rfl, Below.refl _ _⟩
  case round =>
    obtain ⟨k, hk, rfl, hb⟩ := hrel
    by_cases hlt : k < l.length
    · obtain ⟨b, off, rfl, hbb, hc⟩ := (HV.out.on hb).ages hlt
      obtain ⟨b', off', rfl, hbb', hc'⟩ := (HU.out.on hb).ages hlt
      have F := Lib.hid (hc k hlt)
      have F' := Lib.hid (hc' k hlt)
      have i1 : (k : Int) < (l.length : Int) := by omega
      have i2 : (0 : Int) ≤ (k : Int) := by omega
      clear hc hc'
      obtain ⟨c0, c1⟩ := F.out
      obtain ⟨d0, d1⟩ := F'.out
      have HB := Lib.hid hb
      clear hb
      go_wp2
      go_region_held3 (fun W => W.cell? ⟨b, off + k * 2, none⟩ = some (.int .i64 (l[k]).a) ∧ W.cell? ⟨b, off + k * 2 + 1, none⟩ = some (.int .i64 (l[k]).b) ∧ W.cell? ⟨b', off' + k * 2, none⟩ = some (.int .i64 (l[k]).a) ∧ W.cell? ⟨b', off' + k * 2 + 1, none⟩ = some (.int .i64 (l[k]).b))
        (first | with_reducible exact (F.out.on hbb B8).and (F'.out.on hbb' B8) | with_reducible exact (F.out.on hbb (Below.drew1 _)).and (F'.out.on hbb' (Below.drew1 _)) | exact F.out.and F'.out | fail)
        (first
          | (go_at_call 85; refine (HT.out l[k] _).mono ?_; rintro r w8 ⟨rfl, b8⟩; have B8 := bstep (Below.drew1 _) b8)
          | fail)
      all_goals
        have BC := Lib.hid (bstep HB.out B8)
        clear B8 b8 c0 c1 d0 d1
        go_wp2
        go_roundw
        case rel => exact ⟨k + 1, by omega, by go_num, BC.out⟩
        case measure => simp [intOf]; omega
    · go_wp2
      go_ret
      exact ⟨rfl, hb⟩
theorem gvl_set (l : List AgeD) (i : Nat) (k : AgeD) (h : i < l.length) : gvl (l.set i k) = ((gvl l).set (i * 2) (.int .i64 k.a)).set (i * 2 + 1) (.int .i64 k.b) := by
  induction l generalizing i with
  | nil => simp at h
  | cons x l ih =>
    cases i with
    | zero => simp [gvl_cons, gX]
    | succ i =>
      have h := ih i (by simpa using h)
      rw [List.set_cons_succ, gvl_cons, h, gvl_cons, show (i + 1) * 2 = i * 2 + 1 + 1 by omega]
      simp [gX]
/-- Block g of w holds the versions l in a row of room for cap. -/
def RwG (w : World) (g cap : Nat) (l : List AgeD) : Prop := Rw w g 61 2 l.length cap (gvl l)
theorem RwG.two {w : World} {g cap : Nat} {l : List AgeD} (h : RwG w g cap l) {i : Nat} (hi : i < l.length) : ∀ j, j < 2 → ∃ v, w.cell? ⟨g, i * 2 + j, none⟩ = some v := by
  intro j hj
  have hl := gvl_len l
  exact ⟨_, Rw.cell h (i := i * 2 + j) (by omega)⟩
theorem RwG.set {w : World} {g cap : Nat} {l : List AgeD} (h : RwG w g cap l) {i : Nat} (hi : i < l.length) (k : AgeD) : RwG ((w.setCell ⟨g, i * 2, none⟩ (.int .i64 k.a)).setCell ⟨g, i * 2 + 1, none⟩ (.int .i64 k.b)) g cap (l.set i k) := by
  have h5 := (Rw.set h (i * 2) (.int .i64 k.a)).set (i * 2 + 1) (.int .i64 k.b)
  unfold RwG
  rw [List.length_set, gvl_set l i k hi]
  exact h5
theorem RwG.owns {w : World} {S : Nat → Prop} {g cap : Nat} {l : List AgeD} (h : RwG w g cap l) (hS : S g) (hn : l.length ≤ cap) (hc : cap ≤ maxLen) : Owns w S (.slice (some ⟨g, 0, none⟩) l.length cap) (agesD l) :=
  Rw.owns h hS (by rw [gC_map]; exact lits_own _ _ _) hn hc (ages_len l)
end Go.Proofs.YtpfepcjbhchpcaaGreat
