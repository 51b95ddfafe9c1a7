/- Contracts of impl.DevNew and spec.DevNew. No condition. -/
import Derived.Test.YtmeiobpeacdfjaaDevWrite
namespace Go.Proofs.Ytmeiobpeacdfjaa
open Go.RowKit
set_option maxRecDepth 100000
set_option linter.unusedSimpArgs false
set_option linter.unusedVariables false

def newD (n : Int) : DevD := if 1 ≤ n ∧ n ≤ 60 then ⟨List.replicate n.toNat [], [], -1, false⟩ else ⟨[], [], 0, false⟩
theorem newD_yes {n : Int} (h : 1 ≤ n ∧ n ≤ 60) : newD n = ⟨List.replicate n.toNat [], [], -1, false⟩ := if_pos h
theorem newD_no {n : Int} (h : ¬ (1 ≤ n ∧ n ≤ 60)) : newD n = ⟨[], [], 0, false⟩ := if_neg h
theorem newD_small (n : Int) : SmallD (newD n) := by
  by_cases h : 1 ≤ n ∧ n ≤ 60
  · rw [newD_yes h]
    refine ⟨by simp; omega, by simp, fun l hl => ?_, by simp⟩
    have := List.eq_of_mem_replicate hl; subst this; simp
  · rw [newD_no h]; exact ⟨by simp, by simp, by simp, by simp⟩
theorem nilsL (w : World) (S : Nat → Prop) (n : Nat) : OwnsL w S (List.replicate n (.slice none 0 0)) ((List.replicate n ([] : List UInt8)).map bytesD) := by
  refine ⟨by simp, fun _ _ => False, fun i a b => ?_, fun _ _ h => h.elim, fun _ _ _ _ h => h.elim⟩
  simp; exact .nil _ _ _
theorem zero_dev (w : World) (S : Nat → Prop) : OwnDev w S (.agg #[.slice none 0 0, .slice none 0 0, .int .i64 0, .bool false]) ⟨[], [], 0, false⟩ :=
  ⟨_, _, rfl, OwnsL.two (S := fun _ => False) (T := fun _ => False) (.nil _ _ _) (.nil _ _ _) (fun _ h => h.elim) (fun _ h => h.elim) (fun _ h => h.elim)⟩
theorem implDevNew_any (n : Int) (w : World) : Calls Try.prog 29 #[.int .i64 n] w (NewDev w (newD n)) := by
  by_cases h1 : n < 1
  · have k1 : decide (n < 1) = true := decide_eq_true h1
    have HN := Lib.hid (newD_no (n := n) (by omega))
    go_enter Try.func29, Try.ntmps29
    go_wp2
    exact bodyPost_ret (v := .agg #[.slice none 0 0, .slice none 0 0, .int .i64 0, .bool false]) (by simp [results, Try.results29, go_sem]) rfl ⟨_, rfl, by rw [HN.out]; exact zero_dev _ _, bal1 _ _⟩
  · have k1 : decide (n < 1) = false := decide_eq_false h1
    by_cases h2 : 60 < n
    · have k2 : decide (60 < n) = true := decide_eq_true h2
      have HN := Lib.hid (newD_no (n := n) (by omega))
      go_enter Try.func29, Try.ntmps29
      go_wp2
      exact bodyPost_ret (v := .agg #[.slice none 0 0, .slice none 0 0, .int .i64 0, .bool false]) (by simp [results, Try.results29, go_sem]) rfl ⟨_, rfl, by rw [HN.out]; exact zero_dev _ _, bal1 _ _⟩
    · have k2 : decide (60 < n) = false := decide_eq_false h2
      obtain ⟨m, rfl⟩ : ∃ m : Nat, n = (m : Int) := ⟨n.toNat, by omega⟩
      have HN := Lib.hid (newD_yes (n := (m : Int)) (by omega))
      have hmk := run_makeSecs m (by omega)
      have hm : m ≤ 60 := by omega
      go_enter Try.func29, Try.ntmps29
      go_wp2
      refine bodyPost_ret (v := .agg #[.slice (some ⟨w.heap.size + 1, 0, none⟩) m m, .slice none 0 0, .int .i64 (-1), .bool false]) (by simp [results, Try.results29, go_sem]) rfl ⟨_, rfl, ?_, ?_⟩
      · rw [HN.out]
        have q := (al2 w (.cells #[.slice (some ⟨w.heap.size + 1, 0, none⟩) m m, .slice none 0 0, .int .i64 (-1), .bool false] 27) (.cells (madeCells #[.slice none 0 0] m) 22)).2
        refine ⟨_, _, rfl, OwnsL.two (S := fun b => w.heap.size ≤ b) (T := fun _ => False) ?_ (.nil _ _ _) (fun _ h => h) (fun _ h => h.elim) (fun _ _ h => h)⟩
        unfold secsD
        simp only [List.length_replicate, Int.toNat_natCast]
        refine OwnsL.row (by omega) q (Nat.le_refl _) (by unfold maxLen; omega) (by rw [size_madeCells]; omega) (by simp) ?_ (nilsL _ _ m)
        rw [toList_madeCells_one, Nat.mul_one, List.take_of_length_le (by simp)]
      · exact bal2 _ _ _
def NewIn (w : World) (k : Nat) (wr : World) : Prop :=
  ∃ u xs, wr.ownsRow (w.heap.size + 2) 22 1 u k xs ∧ OwnsL wr (Tof (w.heap.size + 2) u) xs ((List.replicate k ([] : List UInt8)).map bytesD) ∧ wr.heap[w.heap.size]? = some (.cells #[.slice none 0 0, .slice none 0 0, .int .i64 0, .bool false] 27) ∧ wr.heap[w.heap.size + 1]? = some (.cells #[u, .slice none 0 0, .int .i64 (-1), .bool false] 27) ∧ Below w.heap.size w wr
theorem own_grow {wr w7 w8 : World} {base e z n : Nat} {u v' : Value} {xs news : List Value} {cs ds : List Dat} (hr : wr.ownsRow base e z u n xs) (ho : OwnsL wr (Tof base u) xs cs) (b7 : Below wr.heap.size wr w7) (hn : OwnsL w7 (fun b => wr.heap.size ≤ b ∧ b < w7.heap.size) news ds)
    (hg : w7.grownBy w8 u.ownBlock) (hat : v'.ownBlock = u.ownBlock ∨ v'.ownBlock = some w7.heap.size) (hbase : base ≤ wr.heap.size) : OwnsL w8 (Tof base v') (xs ++ news) (cs ++ ds) := by
  have hO : Only (fun b => u.ownBlock = some b) w7 w8 := ⟨hg.os, hg.tape, hg.output, hg.size, fun i hi hn => hg.block i hi (fun e => hn e.symm)⟩
  have hz7 := b7.size
  have k1 : OwnsL w8 (fun b => Tof base u b ∧ b < wr.heap.size) xs cs := (ho.lt.on b7).far hO (fun b hb _ hb' => hb.1.2 hb')
  have k2 := hn.far hO (fun b hb _ hb' => by have := (row_lt hr b hb').1; have := hb.1; omega)
  refine k1.append k2 (fun b hb => ⟨hb.1.1, fun hv => ?_⟩) (fun b hb => ⟨by have := hb.1; omega, fun hv => ?_⟩) (fun b hb hb' => by have := hb.2; have := hb'.1; omega)
  · rcases hat with h | h
    · exact hb.1.2 (h ▸ hv)
    · rw [h] at hv; simp at hv; have := hb.2; omega
  · rcases hat with h | h
    · have := (row_lt hr b (h ▸ hv)).1; have := hb.1; omega
    · rw [h] at hv; simp at hv; have := hb.2; omega
theorem At.lit1 (w : World) (a : Value) (e : TypeId) : At (w.alloc (.cells #[a] e)) (some ⟨w.heap.size, 0, none⟩) [a] := by
  refine .inr ⟨w.heap.size, 0, rfl, fun i hi => ?_⟩
  rw [cell_of_row _ _ _ _ _ _ (heap_alloc_new w _)]
  match i, hi with
  | 0, _ => rfl
theorem At.lit1n (w : World) (a : Value) (e : TypeId) {n : Nat} (h : w.heap.size = n) : At (w.alloc (.cells #[a] e)) (some ⟨n, 0, none⟩) [a] := h ▸ At.lit1 w a e
theorem row_ne {w : World} {base e z n : Nat} {v : Value} {xs : List Value} (h : w.ownsRow base e z v n xs) {p : Nat} (hp : p < base) : v.ownBlock ≠ some p := fun hv => by have := (row_lt h p hv).2; omega
theorem row_form {w : World} {base e z n : Nat} {v : Value} {xs : List Value} (h : w.ownsRow base e z v n xs) : ∃ A c, v = .slice A n c := by
  rcases row_cases h with ⟨rfl, rfl, _⟩ | ⟨g, cap, rfl, _⟩
  · exact ⟨none, 0, rfl⟩
  · exact ⟨_, cap, rfl⟩
theorem empty_owns (w : World) : Owns (w.alloc (.cells #[] 5)) (fun b => w.heap.size ≤ b) (.slice (some ⟨w.heap.size, 0, none⟩) 0 0) (bytesD []) := row_owns (row_lit w 5 1) (OwnsL.nil _ _) rfl
set_option maxHeartbeats 1000000 in
theorem specDevNew_any (n : Int) (w : World) : Calls Try.prog 30 #[.int .i64 n] w (NewDev w (newD n)) := by
  by_cases h : 1 ≤ n ∧ n ≤ 60
  · obtain ⟨m, rfl⟩ : ∃ m : Nat, n = (m : Int) := ⟨n.toNat, by omega⟩
    have HN := Lib.hid (newD_yes h)
    have hm : m ≤ 60 := by omega
    obtain ⟨q0, q1⟩ := al2 w (.cells #[.slice none 0 0, .slice none 0 0, .int .i64 0, .bool false] 27) (.cells #[.slice none 0 0, .slice none 0 0, .int .i64 (-1), .bool false] 27)
    have REL : Hid (NewIn w 0 _) := Lib.hid ⟨.slice none 0 0, [], row_nil _ _ _ _, by simpa using OwnsL.nil _ _, q0, q1, bal2 _ _ _⟩
    obtain ⟨h1, h2⟩ := h
    clear q0 q1
    go_enter Try.func30, Try.ntmps30
    go_wp2_with fail
    refine (l1In_yes _ _ _ _ h1 h2).mono ?_
    rintro e w1 ⟨rfl, rfl⟩
    go_wp2
    go_loopw [4] (fun i wr => ∃ k : Nat, k ≤ m ∧ i = .int .i64 k ∧ Hid (NewIn w k wr)) (fun i _ => m - (intOf i).toNat)
    case atStart => exact ⟨0, Nat.zero_le _, rfl, REL⟩
    case round =>
      obtain ⟨k, hk, rfl, HC⟩ := hrel
      obtain ⟨u, xs, hr, ho, q0, q1, hb⟩ := HC.out
      obtain ⟨x0, x1, x2, x3, x4⟩ := box4 q1
      obtain ⟨Au, cu, rfl⟩ := row_form hr
      have hzw : w.heap.size + 1 < wr.heap.size := (Array.getElem?_eq_some_iff.1 q1).1
      by_cases hlt : k < m
      · have HR := Lib.hid hr
        have HO := Lib.hid ho
        have Q0 := Lib.hid q0
        have Q1 := Lib.hid q1
        have HB := Lib.hid hb
        have hz1 : (2 : Int) ≤ 2 := by omega
        clear hr ho q0 q1 hb
        have B7 := Lib.hid (bal2 wr (.cells #[] 5) (.cells #[.slice (some ⟨wr.heap.size, 0, none⟩) 0 0] 22))
        go_wp2_with (at_builtin; refine wpList_appV _ rfl (.tmp 16) (.tmp 18) 24 22 1 24 (.slice none 0 0) rfl Try.underlying24 (by kernel_rfl) rfl (by omega) (by omega) (w.heap.size + 2) k _ xs rfl (row_on HR.out B7.out) _ 1 1 [.slice (some ⟨wr.heap.size, 0, none⟩) 0 0] rfl rfl (At.lit1n _ _ _ (by simp)) (by simp [Value.oneCell']) (by omega) (by simp; omega) ?_; intro v8 w8 o8 g8 n8 at8; have h8 := box_grown (box_on Q1.out B7.out) g8 (row_ne HR.out (by omega)); have k8 := box_grown (box_on Q0.out B7.out) g8 (row_ne HR.out (by omega)); have O8 := Lib.hid o8; have G8 := Lib.hid g8; have AT8 := Lib.hid at8; obtain ⟨gv, cv, rfl⟩ := row_shape o8 (by omega); obtain ⟨f0, f1, f2, f3, f4⟩ := box4 h8; have H8 := Lib.hid h8; have K8 := Lib.hid k8; clear h8 k8 o8 g8 at8 n8 x0 x1 x2 x3 x4)
        have HX := Lib.hid (own_grow HR.out HO.out B7.out (OwnsL.one (((empty_owns wr).on (bal1 _ (.cells #[.slice (some ⟨wr.heap.size, 0, none⟩) 0 0] 22))).lt)) G8.out AT8.out (by omega))
        have HB8 := Lib.hid (grown_below (bstep HB.out B7.out) G8.out (row_on HR.out B7.out) (by omega))
        have hz8 := G8.out.size
        simp only [World.size_alloc] at hz8
        have NEW : Hid (NewIn w (k + 1) (w8.setCell ⟨w.heap.size + 1, 0, none⟩ (.slice (some ⟨gv, 0, none⟩) (k + 1) cv))) := by
          refine Lib.hid ⟨_, _, row_keep O8.out (fun g hg => Below.heap_setCell _ _ _ _ (by have := (row_lt O8.out g hg).2; simp; omega)), ?_, box_far K8.out (by omega), box_set H8.out, HB8.out.setCell (p := ⟨w.heap.size + 1, 0, none⟩) (by simp) _⟩
          rw [List.replicate_succ', List.map_append]
          exact HX.out.keep (fun b hb _ => Below.heap_setCell _ _ _ _ (by have := hb.1; simp; omega))
        clear HX HB8 O8 G8 AT8 H8 K8 HR HO Q0 Q1 HB B7
        go_wp2
        go_roundw
        case rel => exact ⟨k + 1, by omega, by go_num, NEW⟩
        case measure => simp [intOf]; omega
      · have e : k = m := by omega
        subst e
        have HO := Lib.hid (row_owns hr ho (by simp))
        have HB := Lib.hid hb
        obtain ⟨y0, y1, y2, y3, y4⟩ := box4 q0
        have m1 : Mid w.heap.size (w.heap.size + 2) w.heap.size := .mk (by omega) (by omega)
        clear hr ho q0 q1 hb HC
        go_wp2
        refine bodyPost_ret (v := .agg #[.slice Au k cu, .slice none 0 0, .int .i64 (-1), .bool false]) (by simp [results, Try.results30, go_sem, *]) rfl ⟨_, rfl, ?_, ?_⟩
        · rw [HN.out]
          refine ⟨_, _, rfl, OwnsL.two (S := fun b => w.heap.size ≤ b) (T := fun _ => False) ?_ (.nil _ _ _) (fun _ h => h) (fun _ h => h.elim) (fun _ _ h => h)⟩
          have h := HO.out.past (a := w.heap.size) (b := w.heap.size + 2) (((((Only.refl _ _).setCell m1 (.slice Au k cu) (j := 0)).setCell m1 (.slice none 0 0) (j := 1)).setCell m1 (.int .i64 (-1)) (j := 2)).setCell m1 (.bool false) (j := 3)) (by omega)
          unfold secsD
          simp only [List.length_replicate, Int.toNat_natCast]
          exact h
        · exact bpast (b := w.heap.size + 2) HB.out (((((Only.refl _ _).setCell m1 _).setCell m1 _).setCell m1 _).setCell m1 _)
  · have HN := Lib.hid (newD_no h)
    go_enter Try.func30, Try.ntmps30
    go_wp2_with fail
    refine (l1In_no _ _ _ _ (by omega)).mono ?_
    rintro e w1 ⟨rfl, rfl⟩
    go_wp2
    exact bodyPost_ret (v := .agg #[.slice none 0 0, .slice none 0 0, .int .i64 0, .bool false]) (by simp [results, Try.results30, go_sem]) rfl ⟨_, rfl, by rw [HN.out]; exact zero_dev _ _, bal1 _ _⟩
end Go.Proofs.Ytmeiobpeacdfjaa
