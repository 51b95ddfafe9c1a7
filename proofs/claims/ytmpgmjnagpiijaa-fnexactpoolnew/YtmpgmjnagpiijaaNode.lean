/- Nodes as data: a list of sets of keys; how it lies in memory; contracts for nodes in the laws: laws.szNode counts, toNode copies, eqNode finds two that read alike equal; a node that comes in as an argument is opened. Conditions: at most 1100000 sets and keys. -/
import Derived.Test.YtmpgmjnagpiijaaKSetMark
namespace Go.Proofs.Ytmpgmjnagpiijaa
open Go.RowKit Go.ChangeShapes Go.WideShapes Go.Deep
set_option maxRecDepth 100000
set_option linter.unusedSimpArgs false
set_option linter.unusedVariables false

def setsD (ns : List (List KeyD)) : Dat := .row 115 1 ns.length (ns.map keysD)
def setsA (ns : List (List KeyD)) : Dat := .row 138 1 ns.length (ns.map keysA)
/-- How many keys the sets hold. -/
def sumN (ns : List (List KeyD)) : Nat := (ns.map List.length).sum
theorem sumN_nil : sumN [] = 0 := rfl
theorem sumN_cons (l : List KeyD) (ns : List (List KeyD)) : sumN (l :: ns) = l.length + sumN ns := by simp [sumN]
theorem sumN_append (a b : List (List KeyD)) : sumN (a ++ b) = sumN a + sumN b := by simp [sumN]
theorem sumN_mem {l : List KeyD} {ns : List (List KeyD)} (h : l ∈ ns) : l.length ≤ sumN ns := by
  induction ns with
  | nil => simp at h
  | cons a ns ih =>
    rw [sumN_cons]
    rcases List.mem_cons.1 h with rfl | h
    · omega
    · have := ih h; omega
theorem sumN_take {ns : List (List KeyD)} {k : Nat} (h : k < ns.length) : sumN (ns.take (k + 1)) = sumN (ns.take k) + (ns[k]).length := by
  rw [List.take_succ_eq_append_getElem h, sumN_append, sumN_cons, sumN_nil]; omega
theorem sumN_take_le (ns : List (List KeyD)) (k : Nat) : sumN (ns.take k) ≤ sumN ns := by
  have h := sumN_append (ns.take k) (ns.drop k)
  rw [List.take_append_drop] at h
  omega
def SmallN (ns : List (List KeyD)) : Prop := ns.length ≤ 1100000 ∧ sumN ns ≤ 1100000
theorem SmallN.at {ns : List (List KeyD)} (h : SmallN ns) {k : Nat} (hk : k < ns.length) : (ns[k]).length ≤ 1100000 := Nat.le_trans (sumN_mem (List.getElem_mem hk)) h.2
/-- A row of sets, its elements one by one. -/
theorem Reads.set {w : World} {B : Nat} {A : Option Addr} {e e2 n cap : Nat} {ns : List (List KeyD)} (h : Reads w B (.slice A n cap) (.row e 1 ns.length (ns.map fun l => .row e2 5 l.length (l.flatMap kC)))) {i : Nat} (hi : i < ns.length) :
    ∃ b off, A = some ⟨b, off, none⟩ ∧ b < B ∧ ∀ k (hk : k < ns.length), ∃ A2 c2, w.cell? ⟨b, off + k, none⟩ = some (.slice A2 (ns[k]).length c2) ∧ (ns[k]).length ≤ c2 ∧ c2 ≤ maxLen ∧ Reads w B (.slice A2 (ns[k]).length c2) (.row e2 5 (ns[k]).length ((ns[k]).flatMap kC)) := by
  obtain ⟨A', cap', hv, hn, hc, hl, _, k⟩ := h.row'
  cases hv
  rcases k with h | ⟨b, off, xs, rfl, hb, hx, hcell, hr⟩
  · simp at h; subst h; simp at hi
  · refine ⟨b, off, rfl, hb, fun k hk => ?_⟩
    have hx' : xs.length = ns.length := by simpa using hx
    have h1 := hr k (by omega) (by simpa using hk)
    rw [List.getElem_map] at h1
    have h2 := hcell k (by omega)
    generalize xs[k] = x at h1 h2
    obtain ⟨A2, c2, rfl, h3, h4⟩ := h1.shapeK
    exact ⟨A2, c2, h2, h3, h4, h1⟩
theorem Reads.lenN {w : World} {B : Nat} {v : Value} {e z n : Nat} {cs : List Dat} (h : Reads w B v (.row e z n cs)) : ∃ A cap, v = .slice A n cap ∧ n ≤ cap ∧ cap ≤ maxLen := by
  obtain ⟨A, cap, hv, hn, hc, _⟩ := h.row'
  exact ⟨A, cap, hv, hn, hc⟩
theorem box1N {w : World} {p : Nat} {a : Value} {t : TypeId} (h : w.heap[p]? = some (.cells #[a] t (0, 0))) : w.cell? ⟨p, 0, none⟩ = some a ∧ ∀ o, w.frozen? ⟨p, o, none⟩ = false :=
  ⟨by rw [cell_of_row w p 0 _ _ _ h]; rfl, fun o => frozen_of_row w p o _ _ h⟩
/-- A call leaves a node in memory of its own. -/
def NewN (w : World) (ns : List (List KeyD)) (e : Ending) (w' : World) : Prop := ∃ v, e = .returned (.agg #[v]) ∧ Owns w' (fun b => w.heap.size ≤ b) v (setsD ns) ∧ Below w.heap.size w w'
/-- The same of a bare slice of sets. -/
def NewS (w : World) (ns : List (List KeyD)) (e : Ending) (w' : World) : Prop := ∃ v, e = .returned v ∧ Owns w' (fun b => w.heap.size ≤ b) v (setsD ns) ∧ Below w.heap.size w w'
theorem ks_info : (Try.prog.info? 115).map (fun i => (i.zero, i.size, i.bytes)) = some (some (.slice none 0 0), 1, 24) := by kernel_rfl
theorem run_makeSets (n : Nat) (hn : n ≤ 1100000) (w : World) :
    (Instr.makeSlice 85 (.int .i64 (n : Int)) (.int .i64 (n : Int))).run Try.prog w = .ok (.slice (some ⟨w.heap.size, 0, none⟩) n n) (w.alloc (.cells (madeCells #[.slice none 0 0] n) 115)) := by
  obtain ⟨i, hi, h0, h1, h2⟩ := info_parts ks_info
  have hr := run_make (P := Try.prog) w 85 115 i (.slice none 0 0) Try.underlying85 hi h0 .i64 .i64 n n (by omega) (by omega) (by rw [h2]; omega) (by omega)
  simp only [Int.toNat_natCast, h1, Nat.mul_one] at hr
  exact hr
theorem made1N (z : Value) (n : Nat) : (madeCells #[z] n).size = n * 1 := by simp [size_madeCells]
set_option maxHeartbeats 1000000 in
theorem szKeySS_any (v : Value) (ns : List (List KeyD)) (m : Int) (w : World) (hv : Reads w w.heap.size v (setsA ns)) (h1 : 0 ≤ m) (h2 : m ≤ 1048576) :
    Calls Try.prog 92 #[v, .int .i64 m] w fun e w' => w = w' ∧ ((e = .returned (.int .i64 (-1)) ∧ m < (ns.length + sumN ns : Nat)) ∨ (e = .returned (.int .i64 (m - (ns.length + sumN ns : Nat))) ∧ ((ns.length + sumN ns : Nat) : Int) ≤ m)) := by
  obtain ⟨A, c, rfl, hc1, hc2⟩ := hv.lenN
  unfold maxLen at hc2
  have HV := Lib.hid hv
  clear hv
  by_cases h : m - (ns.length : Int) < 0
  · go_enter Try.func92, Try.ntmps92
    go_wp2
    go_ret
    exact ⟨rfl, .inl ⟨rfl, by omega⟩⟩
  · have d0 : decide (m - (ns.length : Int) < 0) = false := decide_eq_false h
    go_enter Try.func92, Try.ntmps92
    go_wp2
    go_loopw [1, 5] (fun q i wr => ∃ j : Nat, j ≤ ns.length ∧ i = .int .i64 j ∧ q = .int .i64 (m - (ns.length + sumN (ns.take j) : Nat)) ∧ ((ns.length + sumN (ns.take j) : Nat) : Int) ≤ m ∧ w = wr) (fun _ i _ => ns.length - (intOf i).toNat)
    case atStart => exact ⟨0, Nat.zero_le _, rfl, by simp [sumN], by simp [sumN]; omega, rfl⟩
    case round =>
      clear d0 h
      obtain ⟨j, hj, rfl, rfl, hle, rfl⟩ := hrel
      by_cases hlt : j < ns.length
      · obtain ⟨b, off, rfl, hbb, hc⟩ := HV.out.set hlt
        obtain ⟨A1, d1, c1, hx1, hx2, _⟩ := hc j hlt
        have T1 := Lib.hid (sumN_take hlt)
        have T2 := Lib.hid (sumN_take_le ns (j + 1))
        have i1 : (j : Int) < (ns.length : Int) := by omega
        have i2 : (0 : Int) ≤ (j : Int) := by omega
        generalize hq : m - ((ns.length + sumN (ns.take j) : Nat) : Int) = q
        have q0 : 0 ≤ q := by omega
        have q1 : q ≤ 1048576 := by omega
        have HQ := Lib.hid hq
        have HL := Lib.hid hle
        clear hc hq hle
        go_wp2_with fail
        refine (szKeyS_any A1 (ns[j]).length d1 q _ (by omega) q0 q1).mono ?_
        rintro e w1 ⟨rfl, (⟨rfl, h3⟩ | ⟨rfl, h3⟩)⟩
        · go_wp2
          go_ret
          refine ⟨rfl, .inl ⟨rfl, ?_⟩⟩
          have := HQ.out; have := T1.out; have := T2.out; omega
        · have d2 : decide (q - ((ns[j]).length : Int) < 0) = false := decide_eq_false (by omega)
          go_wp2
          go_roundw
          case rel =>
            refine ⟨j + 1, by omega, by go_num, ?_, ?_, trivial⟩
            · congr 1; have := HQ.out; have := T1.out; omega
            · have := HQ.out; have := T1.out; omega
          case measure => simp [intOf]; omega
      · go_wp2
        go_ret
        have e : j = ns.length := by omega
        subst e
        have hh : sumN (ns.take ns.length) = sumN ns := by rw [List.take_length]
        rw [hh] at hle
        exact ⟨rfl, .inr ⟨by rw [hh]; rfl, hle⟩⟩
theorem szNode_any (v : Value) (ns : List (List KeyD)) (w : World) (hv : Reads w w.heap.size v (setsA ns)) (m : Int) (h1 : 0 ≤ m) (h2 : m ≤ 1048576) :
    Calls Try.prog 80 #[.agg #[v], .int .i64 m] w fun e w' => Below w.heap.size w w' ∧ ((e = .returned (.int .i64 (-1)) ∧ m < (ns.length + sumN ns : Nat)) ∨ (e = .returned (.int .i64 (m - (ns.length + sumN ns : Nat))) ∧ ((ns.length + sumN ns : Nat) : Int) ≤ m)) := by
  have HS := Lib.hid (fun W b => szKeySS_any v ns m W (hv.on b) h1 h2)
  obtain ⟨A, c, rfl, hc1, hc2⟩ := hv.lenN
  have HB := Lib.hid (bal1 w (.cells #[.slice A ns.length c] 123))
  clear hv
  go_enter Try.func80, Try.ntmps80
  go_wp2_with fail
  refine (HS.out _ HB.out).mono ?_
  rintro e w1 ⟨rfl, (⟨rfl, h3⟩ | ⟨rfl, h3⟩)⟩
  · go_wp2
    go_ret
    exact ⟨HB.out, .inl ⟨rfl, h3⟩⟩
  · generalize hq : m - ((ns.length + sumN ns : Nat) : Int) = q
    have d2 : decide (q < 0) = false := decide_eq_false (by omega)
    go_wp2
    go_ret
    exact ⟨HB.out, .inr ⟨by rw [hq]; rfl, h3⟩⟩
theorem toKeySS_any (v : Value) (ns : List (List KeyD)) (w : World) (hv : Reads w w.heap.size v (setsA ns)) (hn : ns.length + sumN ns ≤ 1048576) :
    Calls Try.prog 93 #[v] w (NewS w ns) := by
  obtain ⟨A, c, rfl, _, _⟩ := hv.lenN
  have hmk := run_makeSets ns.length (by omega)
  have HV := Lib.hid hv
  clear hv
  go_enter Try.func93, Try.ntmps93
  go_wp2
  go_loopw [4] (fun i wr => ∃ (k : Nat) (xs : List Value), k ≤ ns.length ∧ i = .int .i64 k ∧ RowV wr w.heap.size (ns.length * 1) 115 xs ∧ OwnsL wr (fun b => w.heap.size < b) xs ((ns.take k).map keysD) ∧ Below w.heap.size w wr) (fun i _ => ns.length - (intOf i).toNat)
  case atStart => exact ⟨0, [], Nat.zero_le _, rfl, by rw [← made1N (.slice none 0 0)]; exact RowV.new w _ _, OwnsL.nil _ _, (Below.refl _ _).alloc (Nat.le_refl _) _⟩
  case round =>
    obtain ⟨k, xs, hk, rfl, hrow, hown, hb⟩ := hrel
    by_cases hlt : k < ns.length
    · obtain ⟨b, off, rfl, hbb, hc⟩ := (HV.out.on hb).set hlt
      obtain ⟨A1, d1, c1, _, _, r1⟩ := hc k hlt
      have hl := sumN_mem (List.getElem_mem hlt)
      have HX : Hid (xs.length = k) := Lib.hid (by rw [hown.1]; simp; omega)
      have hg := hrow.lt
      have R1 := Lib.hid r1
      clear hc r1
      have i1 : (k : Int) < (ns.length : Int) := by omega
      have i2 : (0 : Int) ≤ (k : Int) := by omega
      go_wp2_with fail
      refine (toKeyS_any _ ns[k] _ R1.out (by omega)).mono ?_
      rintro e w1 ⟨vv, rfl, o1, b1⟩
      obtain ⟨Av, cv, rfl, _, _⟩ := o1.shape
      have o2 := o1.owns
      have hrow1 := hrow.keep (b1.block _ hg)
      have hb1 := hb.trans (b1.mono hb.size)
      obtain ⟨y, c2⟩ := hrow1.cell (k := k) (by omega)
      have f2 := hrow1.frozen k
      have HR := Lib.hid (hrow1.step (by rw [HX.out]; omega) (.slice Av (ns[k]).length cv))
      have HO := Lib.hid (OwnsL.push (j := k) (u := .slice Av (ns[k]).length cv) hown b1 o2 hg)
      have HB := Lib.hid (hb1.setCell (p := ⟨w.heap.size, k, none⟩) (Nat.le_refl _) (.slice Av (ns[k]).length cv))
      clear hrow hrow1 hown hb1 hb o1 o2 b1
      go_wp2
      go_roundw
      case rel =>
        refine ⟨k + 1, xs ++ [.slice Av (ns[k]).length cv], by omega, by go_num, ?_, ?_, HB.out⟩
        · have h := HR.out
          rw [HX.out] at h
          exact h
        · have h := HO.out
          rw [List.take_succ_eq_append_getElem hlt, List.map_append]
          exact h
      case measure => simp [intOf]; omega
    · go_wp2
      go_ret
      have e : k = ns.length := by omega
      subst e
      rw [List.take_length] at hown
      exact ⟨_, rfl, hrow.owns hown (by simp) (by unfold maxLen; omega), hb⟩
theorem toNode_any (v : Value) (ns : List (List KeyD)) (w : World) (hv : Reads w w.heap.size v (setsA ns)) (hn : ns.length + sumN ns ≤ 1048576) :
    Calls Try.prog 81 #[.agg #[v]] w (NewN w ns) := by
  have HS := Lib.hid (fun W b => toKeySS_any v ns W (hv.on b) hn)
  obtain ⟨A, c, rfl, hc1, hc2⟩ := hv.lenN
  have HB := Lib.hid (bal3 w (.cells #[.slice A ns.length c] 123) (.cells #[.slice none 0 0] 87) (.cells #[.slice none 0 0] 87))
  clear hv
  go_enter Try.func81, Try.ntmps81
  go_wp2_with fail
  refine (HS.out _ HB.out).mono ?_
  rintro e w1 ⟨vv, rfl, o1, b1⟩
  obtain ⟨Av, cv, rfl, _, _⟩ := o1.reads.lenN
  have hb1 := bstep HB.out b1
  obtain ⟨k1, k2⟩ := bcell b1
  have hz := b1.size
  simp at hz
  have o2 : Owns w1 (fun b => w.heap.size + 3 ≤ b) (.slice Av ns.length cv) (setsD ns) := by
    simp only [World.size_alloc] at o1
    exact o1
  go_wp2
  have HO : ∀ u1 u2, Only (Mid w.heap.size (w.heap.size + 3)) w1 ((w1.setCell ⟨w.heap.size + 1 + 1, 0, none⟩ u1).setCell ⟨w.heap.size + 1, 0, none⟩ u2) := fun u1 u2 => ((Only.refl _ _).setCell (.mk (by omega) (by omega)) _).setCell (.mk (by omega) (by omega)) _
  exact bodyPost_ret (v := .agg #[.slice Av ns.length cv]) (by simp [results, Try.results81, go_sem, k1]) rfl ⟨_, rfl, o2.past (HO _ _) (by omega), bpast hb1 (HO _ _)⟩
end Go.Proofs.Ytmpgmjnagpiijaa
