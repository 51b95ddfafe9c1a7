/- The walk of FnFalls: at every code the call returns true and writes nothing that was there. No condition. -/
import Derived.Test.YtmeiobpeacdfjaaDrawDev
import Derived.Test.YtmeiobpeacdfjaaDevFall
import Derived.Test.YtmeiobpeacdfjaaConv
import Derived.StillTailTactics
import Derived.Deep.RegionHeld3
import Derived.Deep.DeepCutAuto
import Derived.IntWalk
namespace Go.Proofs.Ytmeiobpeacdfjaa
open Go.RowKit
set_option maxRecDepth 100000
set_option linter.unusedSimpArgs false
set_option linter.unusedVariables false

theorem appK_from (keep : Nat → Bool) (ls : List (List UInt8)) (ps : List (Int × List UInt8)) (n i : Nat) (hi : i < ls.length) (hps : ∀ p ∈ ps, 0 ≤ p.1) :
    (appK keep ls ps n)[i]'(by rw [appK_length]; exact hi) = ls[i] ∨ ∃ (j : Nat) (hj : j < ps.length), (ps[j]).1 = (i : Int) ∧ (ps[j]).2 = (appK keep ls ps n)[i]'(by rw [appK_length]; exact hi) := by
  induction n with
  | zero => exact .inl rfl
  | succ n ih =>
    by_cases hn : n < ps.length
    · by_cases hk : keep n = true
      · simp only [appK_yes hn hk]
        by_cases he : (ps[n]).1.toNat = i
        · right
          refine ⟨n, hn, ?_, ?_⟩
          · have := hps ps[n] (List.getElem_mem _); omega
          · simp [he]
        · rw [List.getElem_set_ne he]; exact ih
      · simp only [appK_no hn (by simpa using hk)]; exact ih
    · have : appK keep ls ps (n + 1) = appK keep ls ps n := by simp [appK, List.getElem?_eq_none (by omega : ps.length ≤ n)]
      simp only [this]; exact ih
theorem appK_none (keep : Nat → Bool) (ls : List (List UInt8)) (ps : List (Int × List UInt8)) (n : Nat) (h : ∀ i, keep i = false) : appK keep ls ps n = ls := by
  induction n with
  | zero => rfl
  | succ n ih =>
    simp only [appK, h, Bool.false_eq_true, if_false, ih]
    split <;> rfl
theorem bits0 : bits .and .i64 0 1 = 0 := by decide
theorem surv_zero (i : Nat) : surv 0 i = false := by
  unfold surv bitB
  have h : (0 : Int) / 2 ^ i = 0 := Int.zero_ediv _
  rw [h, bits0]; rfl
theorem okD_fall {d : DevD} {k : Int} (h : okD d = true) : okD (fallD d k) = true := by
  rw [fallD_yes h]
  have q := (okD_iff d).1 h
  have hl := appK_length (surv k) d.secs d.cache d.cache.length
  exact (okD_iff _).2 ⟨by rw [hl]; exact q.1, by rw [hl]; exact q.2.1, by simp, appK_all (surv k) _ _ q.2.2.2.1 (fun p hp => (q.2.2.2.2.1 p hp).2.2) _, by simp, by simp, by simp⟩
/-- A device in a box. -/
def Boxed (w : World) (g : Nat) (X : DevD) : Prop := ∃ A c A' c', w.heap[g]? = some (.cells #[.slice A X.secs.length c, .slice A' X.cache.length c', .int .i64 X.fuse, .bool X.down] 27) ∧ RdDev w w.heap.size (.agg #[.slice A X.secs.length c, .slice A' X.cache.length c', .int .i64 X.fuse, .bool X.down]) X
theorem Boxed.on {w w' : World} {g : Nat} {X : DevD} (h : Boxed w g X) (hb : Below w.heap.size w w') : Boxed w' g X := by
  obtain ⟨A, c, A', c', h1, h2⟩ := h
  exact ⟨A, c, A', c', box_on h1 hb, h2.on hb⟩
theorem RdDev.parts {w : World} {B : Nat} {v0 v1 : Value} {d : DevD} {f : Int} {b : Bool} (h : RdDev w B (.agg #[v0, v1, .int .i64 f, .bool b]) d) : Reads w B v0 (secsD d.secs) ∧ Reads w B v1 (cacheD d.cache) := by
  obtain ⟨u0, u1, he, h0, h1⟩ := h
  simp at he
  obtain ⟨rfl, rfl, _, _⟩ := he
  exact ⟨h0, h1⟩
/-- Sector i of a device in a box: where it lies, and what it is as a string. -/
def SecAt (w : World) (A : Option Addr) (i : Nat) (l : List UInt8) : Prop := ∃ b off A2 c2, A = some ⟨b, off, none⟩ ∧ w.cell? ⟨b, off + i, none⟩ = some (.slice A2 l.length c2) ∧ (convert 22 9 (.slice A2 l.length c2)).run Try.prog w.drew = .ok (.string ⟨l.toArray⟩) w.drew
def SecQ (w : World) (A : Option Addr) (i : Nat) (l : List UInt8) : Prop := ∃ b off A2 c2, A = some ⟨b, off, none⟩ ∧ w.cell? ⟨b, off + i, none⟩ = some (.slice A2 l.length c2) ∧ ∀ n, (convert 22 9 (.slice A2 l.length c2)).run Try.prog (w.drewN n) = .ok (.string ⟨l.toArray⟩) (w.drewN n)
theorem Reads.secQ {w : World} {A : Option Addr} {n c : Nat} {ls : List (List UInt8)} (h : Reads w w.heap.size (.slice A n c) (secsD ls)) {i : Nat} (hi : i < ls.length) : SecQ w A i ls[i] := by
  obtain ⟨b, off, rfl, _, hc⟩ := h.sec hi
  obtain ⟨A2, c2, h1, h2, _, h4⟩ := hc i hi
  exact ⟨b, off, A2, c2, rfl, h1, fun n => conv_rd (w := w.drewN n) (show Rd (w.drewN n) w.heap.size A2 ls[i] from h4) h2⟩
theorem Reads.secAt {w : World} {A : Option Addr} {n c : Nat} {ls : List (List UInt8)} (h : Reads w w.heap.size (.slice A n c) (secsD ls)) {i : Nat} (hi : i < ls.length) : SecAt w A i ls[i] := by
  obtain ⟨b, off, rfl, _, hc⟩ := h.sec hi
  obtain ⟨A2, c2, h1, h2, _, h4⟩ := hc i hi
  have h5 : Rd w.drew w.heap.size A2 ls[i] := h4
  exact ⟨b, off, A2, c2, rfl, h1, conv_rd h5 h2⟩
def WrAt (w : World) (A : Option Addr) (i : Nat) (p : Int × List UInt8) : Prop := ∃ b off A2 c2, A = some ⟨b, off, none⟩ ∧ w.cell? ⟨b, off + i * 2, none⟩ = some (.int .i64 p.1) ∧ w.cell? ⟨b, off + i * 2 + 1, none⟩ = some (.slice A2 p.2.length c2) ∧ (convert 22 9 (.slice A2 p.2.length c2)).run Try.prog w.drew = .ok (.string ⟨p.2.toArray⟩) w.drew
def WrQ (w : World) (A : Option Addr) (i : Nat) (p : Int × List UInt8) : Prop := ∃ b off A2 c2, A = some ⟨b, off, none⟩ ∧ w.cell? ⟨b, off + i * 2, none⟩ = some (.int .i64 p.1) ∧ w.cell? ⟨b, off + i * 2 + 1, none⟩ = some (.slice A2 p.2.length c2) ∧ ∀ n, (convert 22 9 (.slice A2 p.2.length c2)).run Try.prog (w.drewN n) = .ok (.string ⟨p.2.toArray⟩) (w.drewN n)
theorem Reads.wrQ {w : World} {A : Option Addr} {n c : Nat} {ps : List (Int × List UInt8)} (h : Reads w w.heap.size (.slice A n c) (cacheD ps)) {i : Nat} (hi : i < ps.length) : WrQ w A i ps[i] := by
  obtain ⟨b, off, rfl, _, hc⟩ := h.wr hi
  obtain ⟨h0, A2, c2, h1, h2, _, h4⟩ := hc i hi
  exact ⟨b, off, A2, c2, rfl, h0, h1, fun n => conv_rd (w := w.drewN n) (show Rd (w.drewN n) w.heap.size A2 (ps[i]).2 from h4) h2⟩
theorem Reads.wrAt {w : World} {A : Option Addr} {n c : Nat} {ps : List (Int × List UInt8)} (h : Reads w w.heap.size (.slice A n c) (cacheD ps)) {i : Nat} (hi : i < ps.length) : WrAt w A i ps[i] := by
  obtain ⟨b, off, rfl, _, hc⟩ := h.wr hi
  obtain ⟨h0, A2, c2, h1, h2, _, h4⟩ := hc i hi
  have h5 : Rd w.drew w.heap.size A2 (ps[i]).2 := h4
  exact ⟨b, off, A2, c2, rfl, h0, h1, conv_rd h5 h2⟩
def FallCut (w2 : World) (X : DevD) (s4 : Value) (wx : World) : Prop := ∃ g, s4 = .pointer (some ⟨g, 0, none⟩) ∧ Boxed wx g X ∧ Below w2.heap.size w2 wx
theorem cut_after {w2 w3 : World} {X : DevD} {A A' : Option Addr} {c c' : Nat} (b3 : Below w2.heap.size w2 w3) (h : RdDev w3 w3.heap.size (.agg #[.slice A X.secs.length c, .slice A' X.cache.length c', .int .i64 X.fuse, .bool X.down]) X) :
    FallCut w2 X (.pointer (some ⟨w3.heap.size, 0, none⟩)) (w3.alloc (.cells #[.slice A X.secs.length c, .slice A' X.cache.length c', .int .i64 X.fuse, .bool X.down] 27)) :=
  ⟨_, rfl, ⟨A, c, A', c', al1 _ _, h.on (bal1 _ _)⟩, bstep b3 (bal1 _ _)⟩
theorem past_alloc {w : World} {o : Obj} {x : Nat} (h : (w.alloc o).drew.heap.size ≤ x) : w.heap.size < x := by
  have h2 : (w.alloc o).heap.size ≤ x := h
  rw [World.size_alloc] at h2
  exact h2
theorem cut_before {w2 w3 : World} {X : DevD} {A A' : Option Addr} {c c' g : Nat} {a0 a1 a2 a3 : Value} (hg : w2.heap.size ≤ g) (hq : w3.heap[g]? = some (.cells #[a0, a1, a2, a3] 27)) (b3 : Below w2.heap.size w2 w3) (h : OwnDev w3 (fun x => g < x) (.agg #[.slice A X.secs.length c, .slice A' X.cache.length c', .int .i64 X.fuse, .bool X.down]) X) :
    FallCut w2 X (.pointer (some ⟨g, 0, none⟩)) ((((w3.setCell ⟨g, 0, none⟩ (.slice A X.secs.length c)).setCell ⟨g, 1, none⟩ (.slice A' X.cache.length c')).setCell ⟨g, 2, none⟩ (.int .i64 X.fuse)).setCell ⟨g, 3, none⟩ (.bool X.down)) := by
  have hO : Only (fun x => x = g) w3 ((((w3.setCell ⟨g, 0, none⟩ (.slice A X.secs.length c)).setCell ⟨g, 1, none⟩ (.slice A' X.cache.length c')).setCell ⟨g, 2, none⟩ (.int .i64 X.fuse)).setCell ⟨g, 3, none⟩ (.bool X.down)) := ((((Only.refl (fun x => x = g) w3).setCell rfl _).setCell rfl _).setCell rfl _).setCell rfl _
  exact ⟨g, rfl, ⟨A, c, A', c', box_set (box_set (box_set (box_set hq))), (h.far hO (fun b hb _ hb' => by omega)).rd⟩, b3.trans (hO.below b3.size (fun x hx => by omega))⟩
end Go.Proofs.Ytmeiobpeacdfjaa
