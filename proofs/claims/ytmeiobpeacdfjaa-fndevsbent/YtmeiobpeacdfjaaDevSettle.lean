/- The contract of impl.settle. Conditions: no slice holds more than 2^20 elements; every pending write goes to a sector that exists. -/
import Derived.Test.YtmeiobpeacdfjaaDevPend
namespace Go.Proofs.Ytmeiobpeacdfjaa
open Go.RowKit
set_option maxRecDepth 100000
set_option linter.unusedSimpArgs false
set_option linter.unusedVariables false

/-- What settle leaves: the sectors in their row, the kept writes moved into them, no cache. -/
def Settled (w : World) (base b : Nat) (u : Value) (T : Nat → Prop) (f : Int) (dn : Bool) (ls : List (List UInt8)) (e : Ending) (w' : World) : Prop :=
  ∃ ys, e = .returned (.agg #[u, .slice none 0 0, .int .i64 f, .bool dn]) ∧ w'.ownsRow base 22 1 u ls.length ys ∧ OwnsL w' T ys (ls.map bytesD) ∧ Only (fun x => x = b ∨ u.ownBlock = some x) w w'
def SetIn (w : World) (base b : Nat) (u : Value) (T : Nat → Prop) (bx : Obj) (keep : Nat → Bool) (ls : List (List UInt8)) (ps : List (Int × List UInt8)) (zs : List Value) (k : Nat) (wr : World) : Prop :=
  ∃ ys L, wr.ownsRow base 22 1 u ls.length ys ∧ OwnsL wr T (ys ++ zs.drop (k * 2)) ((appK keep ls ps k).map bytesD ++ (ps.flatMap wrC).drop (k * 2)) ∧ MapIs wr b L (valOf zs) ∧ (∀ i, k ≤ i → (i ∈ L ↔ keep i = true ∧ i < ps.length)) ∧ wr.heap[w.heap.size]? = some bx ∧ wr.heap[w.heap.size + 1]? = some (.cells #[.slice none 0 0, .slice none 0 0, .int .i64 0, .bool false] 27) ∧ Only (fun x => x = b ∨ u.ownBlock = some x) w wr
theorem Only.setNew {S : Nat → Prop} {a w : World} {g j : Nat} (h : Only S a w) (hg : a.heap.size ≤ g) (u : Value) : Only S a (w.setCell ⟨g, j, none⟩ u) :=
  ⟨h.os, h.tape, h.output, by simpa [World.setCell] using h.size, fun i hi hn => (Below.heap_setCell w ⟨g, j, none⟩ u i (by simp; omega)).trans (h.block i hi hn)⟩
theorem cons2 {zs : List Value} {k : Nat} {a b : Value} (h0 : zs[k * 2]? = some a) (h1 : zs[k * 2 + 1]? = some b) : zs.drop (k * 2) = a :: b :: zs.drop ((k + 1) * 2) := by
  obtain ⟨l0, e0⟩ := List.getElem?_eq_some_iff.1 h0
  obtain ⟨l1, e1⟩ := List.getElem?_eq_some_iff.1 h1
  rw [List.drop_eq_getElem_cons l0, e0, List.drop_eq_getElem_cons l1, e1, show (k + 1) * 2 = k * 2 + 1 + 1 by omega]
theorem cons2D {ps : List (Int × List UInt8)} {k : Nat} (hk : k < ps.length) : (ps.flatMap wrC).drop (k * 2) = .lit (.int .i64 (ps[k]).1) :: bytesD (ps[k]).2 :: (ps.flatMap wrC).drop ((k + 1) * 2) := by
  have hl := cache_len ps
  rw [List.drop_eq_getElem_cons (by omega), cache_get0 _ _ hk, List.drop_eq_getElem_cons (by omega), cache_get' _ _ hk, show (k + 1) * 2 = k * 2 + 1 + 1 by omega]
set_option maxHeartbeats 2000000 in
set_option maxRecDepth 100000 in
theorem settle_any (A0 A1 : Option Addr) (c0 c1 : Nat) (f : Int) (dn : Bool) (ls : List (List UInt8)) (ps : List (Int × List UInt8)) (xs zs : List Value) (keep : Nat → Bool) (L : List Nat) (T : Nat → Prop) (base b : Nat) (w : World)
    (_hn : ls.length ≤ 1048576) (hm : ps.length ≤ 1048576) (hps : ∀ p ∈ ps, 0 ≤ p.1 ∧ p.1 < ls.length)
    (hrow : w.ownsRow base 22 1 (.slice A0 ls.length c0) ls.length xs) (hown : OwnsL w T (xs ++ zs) (ls.map bytesD ++ ps.flatMap wrC)) (hxl : xs.length = ls.length) (hT : ∀ x, T x → (Value.slice A0 ls.length c0).ownBlock ≠ some x ∧ x ≠ b) (hTl : ∀ x, T x → x < w.heap.size) (hub : (Value.slice A0 ls.length c0).ownBlock ≠ some b)
    (hmap : MapIs w b L (valOf zs)) (hL : ∀ i, i ∈ L ↔ keep i = true ∧ i < ps.length) :
    Calls Try.prog 69 #[.agg #[.slice A0 ls.length c0, .slice A1 ps.length c1, .int .i64 f, .bool dn], .map (some b)] w (Settled w base b (.slice A0 ls.length c0) T f dn (appK keep ls ps ps.length)) := by
  have HZ : Hid (ReadsL w w.heap.size zs (ps.flatMap wrC)) := by
    have h := hown.reads
    refine Lib.hid ⟨by have := h.1; simp only [List.length_append, List.length_map] at this; omega, fun i a c => ?_⟩
    have := h.2 (xs.length + i) (by simp; omega) (by simp only [List.length_append, List.length_map]; omega)
    rw [List.getElem_append_right (by omega), List.getElem_append_right (by simp; omega)] at this
    simpa [hxl] using this
  obtain ⟨q0, q1⟩ := al2 w (.cells #[.slice A0 ls.length c0, .slice A1 ps.length c1, .int .i64 f, .bool dn] 27) (.cells #[.slice none 0 0, .slice none 0 0, .int .i64 0, .bool false] 27)
  have hb2 := bal2 w (.cells #[.slice A0 ls.length c0, .slice A1 ps.length c1, .int .i64 f, .bool dn] 27) (.cells #[.slice none 0 0, .slice none 0 0, .int .i64 0, .bool false] 27)
  have REL : Hid (SetIn w base b (.slice A0 ls.length c0) T (.cells #[.slice A0 ls.length c0, .slice A1 ps.length c1, .int .i64 f, .bool dn] 27) keep ls ps zs 0 _) :=
    Lib.hid ⟨xs, L, row_on hrow hb2, by simpa [appK] using hown.on hb2, hmap.on hb2, fun i _ => hL i, q0, q1, Only.of_below hb2 _⟩
  have PS := Lib.hid hps
  have HT := Lib.hid hT
  have HTL := Lib.hid hTl
  have HUB := Lib.hid hub
  have HBL : Hid (b < w.heap.size) := Lib.hid hmap.lt
  have HROW := Lib.hid hrow
  clear q0 q1 hb2 hrow hown hmap hL hps hT hub hxl hTl
  go_enter Try.func69, Try.ntmps69
  go_wp2
  go_loopw [5, 6, 7, 11] (fun _ _ _ i wr => ∃ k : Nat, k ≤ ps.length ∧ i = .int .i64 k ∧ Hid (SetIn w base b (.slice A0 ls.length c0) T (.cells #[.slice A0 ls.length c0, .slice A1 ps.length c1, .int .i64 f, .bool dn] 27) keep ls ps zs k wr)) (fun _ _ _ i _ => ps.length - (intOf i).toNat)
  case atStart => exact ⟨0, Nat.zero_le _, rfl, REL⟩
  case round =>
    obtain ⟨k, hk, rfl, HC⟩ := hrel
    obtain ⟨ys, L2, hr, ho, hmp, hL2, q0, q1, hO⟩ := HC.out
    obtain ⟨x0, x1, x2, x3, x4⟩ := box4 q0
    by_cases hlt : k < ps.length
    · obtain ⟨A, c, e0, e1, hrd, ev⟩ := wr_cells HZ.out hlt
      have hyl : ys.length = ls.length := by rw [hr.1]; omega
      rw [cons2 e0 e1, cons2D hlt] at ho
      have hpk := PS.out ps[k] (List.getElem_mem _)
      have hzw : w.heap.size + 1 < wr.heap.size := (Array.getElem?_eq_some_iff.1 q1).1
      by_cases hkp : keep k = true
      · have hlook := run_look (P := Try.prog) Try.underlying88 Try.underlying3 hmp k ((hL2 k (Nat.le_refl _)).2 ⟨hkp, hlt⟩)
        rw [ev] at hlook
        rcases row_cases hr with ⟨_, h, _⟩ | ⟨g, cap, hu, hbg, hR, hnc, hcm, hl⟩
        · omega
        · cases hu
          obtain ⟨m, hm0⟩ : ∃ m : Nat, (ps[k]).1 = (m : Int) := ⟨(ps[k]).1.toNat, by omega⟩
          have hml : m < ls.length := by omega
          have hgw := (row_lt HROW.out g rfl).1
          have hgb : ¬ g = b := fun h => HUB.out (by rw [h]; rfl)
          have hbg2 : ¬ b = g := fun h => hgb h.symm
          have hbw := HBL.out
          rw [hm0] at hlook
          have R1 := hR.keep (Below.heap_alloc wr (.cells #[.int .i64 (m : Int), .slice A (ps[k]).2.length c] 78) g hR.lt)
          have cc := R1.cell (i := m) (by omega)
          have ff := R1.frozen m
          generalize hyy : ys[m]'(by omega) = yy at cc
          have i1 : (m : Int) < (ls.length : Int) := by omega
          have i2 : (0 : Int) ≤ (m : Int) := by omega
          have hzg : g < wr.heap.size := hR.lt
          have hzp : w.heap.size < wr.heap.size := by omega
          have n1 : ¬ w.heap.size = g := by omega
          have WS : Hid (∀ p, p < wr.heap.size → p ≠ g → ((wr.setCell ⟨g, m, none⟩ (.slice A (ps[k]).2.length c)).alloc (.cells #[.int .i64 (m : Int), .slice A (ps[k]).2.length c] 78)).heap[p]? = wr.heap[p]?) := Lib.hid (fun p hp hpg => (Below.heap_alloc _ _ _ (by simpa using hp)).trans (Below.heap_setCell _ _ _ _ (by simpa using hpg)))
          obtain ⟨w2, hdel, m2, g2⟩ := run_del (P := Try.prog) Try.underlying88 Try.underlying3 (hmp.keep (WS.out b hmp.lt hbg2)) k 0 3
          have W2 : Hid (∀ p, p < wr.heap.size → p ≠ g → p ≠ b → w2.heap[p]? = wr.heap[p]?) := Lib.hid (fun p hp hpg hpb => (g2.block p (by simp; omega) (fun h => hpb (by injection h))).trans (WS.out p hp hpg))
          have HR0 : Hid (((wr.setCell ⟨g, m, none⟩ (.slice A (ps[k]).2.length c)).alloc (.cells #[.int .i64 (m : Int), .slice A (ps[k]).2.length c] 78)).ownsRow base 22 1 (.slice (some ⟨g, 0, none⟩) ls.length c0) ls.length (ys.set m (.slice A (ps[k]).2.length c))) := Lib.hid (row_on (row_set hr m (.slice A (ps[k]).2.length c)) (bal1 _ _))
          have NEW : Hid (SetIn w base b (.slice (some ⟨g, 0, none⟩) ls.length c0) T (.cells #[.slice (some ⟨g, 0, none⟩) ls.length c0, .slice A1 ps.length c1, .int .i64 f, .bool dn] 27) keep ls ps zs (k + 1) w2) := by
            refine Lib.hid ⟨ys.set m (.slice A (ps[k]).2.length c), L2.erase k, row_keep HR0.out (fun p hp => g2.block p (row_lt HR0.out p hp).1 (fun h => HUB.out (by rw [hp]; exact h))), ?_, m2, ?_, (W2.out _ (by omega) n1 (by omega)).trans q0, (W2.out _ (by omega) (by omega) (by omega)).trans q1, ?_⟩
            · have h := ho.move (n := m) (by simp [appK_length]; omega)
              rw [appK_yes hlt hkp, List.map_set, show (ps[k]).1.toNat = m by rw [hm0]; simp]
              exact h.keep (fun b' hb' hl' => W2.out b' hl' (fun h => (HT.out b' hb').1 (by rw [h]; rfl)) (HT.out b' hb').2)
            · intro i hi
              rw [List.mem_erase_of_ne (by omega)]
              exact hL2 i (by omega)
            · exact ((hO.setCell (g := g) (j := m) (.inr rfl) (.slice A (ps[k]).2.length c)).trans (Only.of_below (bal1 _ _) _)).trans (Only.of_grown g2 (.inl rfl))
          clear hr ho hmp hL2 q0 q1 hO hR R1 HC hyy e0 e1 ev hrd hpk hm0 m2 g2 WS W2 HR0
          go_wp2
          go_roundw
          case rel => exact ⟨k + 1, by omega, by go_num, NEW⟩
          case measure => simp [intOf]; omega
      · have hkp2 : keep k = false := by simpa using hkp
        have hlook := run_look_no (P := Try.prog) Try.underlying88 Try.underlying3 (Try.zeroValue78 wr) hmp k (fun h => hkp ((hL2 k (Nat.le_refl _)).1 h).1)
        have NEW : Hid (SetIn w base b (.slice A0 ls.length c0) T (.cells #[.slice A0 ls.length c0, .slice A1 ps.length c1, .int .i64 f, .bool dn] 27) keep ls ps zs (k + 1) (wr.alloc (.cells #[.int .i64 0, .slice none 0 0] 78))) := by
          refine Lib.hid ⟨ys, L2, row_on hr (bal1 _ _), ?_, hmp.on (bal1 _ _), fun i hi => hL2 i (by omega), box_on q0 (bal1 _ _), box_on q1 (bal1 _ _), hO.trans (Only.of_below (bal1 _ _) _)⟩
          rw [appK_no hlt hkp2]
          exact (ho.drop2 (by simp [appK_length]; omega)).on (bal1 _ _)
        clear hr ho hmp hL2 q0 q1 hO HC e0 e1 ev hrd hpk
        go_wp2
        go_roundw
        case rel => exact ⟨k + 1, by omega, by go_num, NEW⟩
        case measure => simp [intOf]; omega
    · have e : k = ps.length := by omega
      have HR := Lib.hid hr
      have hcl := cache_len ps
      have hzl : zs.length = ps.length * 2 := by rw [HZ.out.1, hcl]
      have HO : Hid (OwnsL wr T ys ((appK keep ls ps ps.length).map bytesD)) := by
        have h := ho
        rw [List.drop_of_length_le (by omega), List.drop_of_length_le (by omega), List.append_nil, List.append_nil, e] at h
        exact Lib.hid h
      obtain ⟨y0, y1, y2, y3, y4⟩ := box4 q1
      have HOO := Lib.hid hO
      have hzw : w.heap.size + 1 < wr.heap.size := (Array.getElem?_eq_some_iff.1 q1).1
      clear hr ho hmp hL2 q0 q1 hO HC hcl hzl
      have n1 : ¬ w.heap.size = w.heap.size + 1 := by omega
      have m0 : Mid w.heap.size (w.heap.size + 2) w.heap.size := .mk (by omega) (by omega)
      have m1 : Mid w.heap.size (w.heap.size + 2) (w.heap.size + 1) := .mk (by omega) (by omega)
      go_wp2
      refine bodyPost_ret (v := .agg #[.slice A0 ls.length c0, .slice none 0 0, .int .i64 f, .bool dn]) (by simp [results, Try.results69, go_sem, *]) rfl ⟨ys, rfl, ?_, ?_, ?_⟩
      · rw [appK_length]
        exact row_keep HR.out (fun p hp => by
          have hpl := (row_lt HROW.out p hp).1
          exact (((((Only.refl (Mid w.heap.size (w.heap.size + 2)) wr).setCell m0 _).setCell m1 _).setCell m1 _).setCell m1 _).setCell m1 _ |>.block p (by omega) (fun h => by have := h.1; omega))
      · exact HO.out.far (((((Only.refl (Mid w.heap.size (w.heap.size + 2)) wr).setCell m0 _).setCell m1 _).setCell m1 _).setCell m1 _ |>.setCell m1 _) (fun b' hb' _ h => by have := HTL.out b' hb'; have := h.1; omega)
      · exact ((((HOO.out.setNew (by omega) _).setNew (by omega) _).setNew (by omega) _).setNew (by omega) _).setNew (by omega) _
end Go.Proofs.Ytmeiobpeacdfjaa
