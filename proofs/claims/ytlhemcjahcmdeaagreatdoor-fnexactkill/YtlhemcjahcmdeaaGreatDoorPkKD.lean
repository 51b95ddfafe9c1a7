/- Several texts in one: NodeBox, TreePutPure, DoPure, Box, PoolSet, VolIPut, AgePut, AgeOkI, AgeOkS, AgeNew, DoNew, DoApp, Lay, VolDel, DoKill, PoolVols, SeeDelP, SeeDel, PoolRefs. -/
import Derived.Deep.RegionHeld3
import Derived.Deep.DeepCutAuto
import Derived.Lib.SliceRun
import Derived.Deep.RegionLaw
import Derived.Test.YtlhemcjahcmdeaaGreatDoorPkKC
namespace Go.Proofs.YtlhemcjahcmdeaaGreatDoor
open Go.RowKit
set_option maxRecDepth 100000
set_option linter.unusedSimpArgs false
set_option linter.unusedVariables false

/-- u is a row of sets in blocks from base on, none of them bo. -/
def NOwn (w : World) (base bo : Nat) (u : Value) (ns : List (List KeyD)) : Prop :=
  ∃ xs, w.ownsRow base 221 1 u ns.length xs ∧ OwnsL w (fun b => (base ≤ b ∧ b ≠ bo) ∧ u.ownBlock ≠ some b) xs (ns.map keysD) ∧ u.ownBlock ≠ some bo
theorem NOwn.of {w : World} {base : Nat} {u : Value} {ns : List (List KeyD)} (h : Owns w (fun b => base ≤ b) u (setsD ns)) (o : Obj) : NOwn (w.alloc o) base w.heap.size u ns := by
  rcases h.rw' with ⟨rfl, h0, hc⟩ | ⟨g, cap, xs, rfl, hS, hR, hn, hc, hl, hx, ho⟩
  · have : ns = [] := List.length_eq_zero_iff.1 h0
    subst this
    exact ⟨[], row_nil _ _ _ _, OwnsL.nil _ _, by simp [Value.ownBlock]⟩
  · have hlt := hR.lt
    refine ⟨xs, row_on (hR.row hS hn hc (by simpa using hx)) (bal1 _ _), ?_, by simp [Value.ownBlock]; omega⟩
    exact (ho.lt.on (bal1 w o)).mono (fun b hb => ⟨⟨hb.1.1, by omega⟩, fun e => hb.1.2 (by simp [Value.ownBlock] at e; exact e.symm)⟩)
theorem NOwn.on {w w' : World} {base bo : Nat} {u : Value} {ns : List (List KeyD)} (h : NOwn w base bo u ns) (hb : Below w.heap.size w w') : NOwn w' base bo u ns := by
  obtain ⟨xs, h1, h2, h3⟩ := h
  exact ⟨xs, row_on h1 hb, h2.on hb, h3⟩
theorem rowP_owns {P : Nat → Prop} {w : World} {base e z n : Nat} {v : Value} {xs : List Value} {cs : List Dat} (h : w.ownsRow base e z v n xs) (ho : OwnsL w (fun b => P b ∧ v.ownBlock ≠ some b) xs cs) (hP : ∀ g, v.ownBlock = some g → P g) (hl : cs.length = n * z) : Owns w P v (.row e z n cs) := by
  rcases row_cases h with ⟨rfl, rfl, rfl⟩ | ⟨g, cap, rfl, hb, hR, hn, hc, _⟩
  · have : cs = [] := List.length_eq_zero_iff.1 (by simpa using hl)
    subst this
    exact .nil _ _ _
  · exact hR.owns (hP g rfl) (ho.mono (fun b hb => ⟨hb.1, fun e => hb.2 (by rw [e]; rfl)⟩)) hn hc hl
theorem NOwn.owns {w : World} {base bo : Nat} {u : Value} {ns : List (List KeyD)} (h : NOwn w base bo u ns) : Owns w (fun b => base ≤ b ∧ b ≠ bo) u (setsD ns) := by
  obtain ⟨xs, h1, h2, h3⟩ := h
  exact rowP_owns h1 h2 (fun g hg => ⟨(row_lt h1 g hg).2, fun e => h3 (by rw [← e]; exact hg)⟩) (by simp)
theorem NOwn.elem {w : World} {base bo : Nat} {u : Value} {ns : List (List KeyD)} (h : NOwn w base bo u ns) {i : Nat} (hi : i < ns.length) :
    ∃ g cap A2 c2, u = .slice (some ⟨g, 0, none⟩) ns.length cap ∧ base ≤ g ∧ g ≠ bo ∧ g < w.heap.size ∧ w.cell? ⟨g, i, none⟩ = some (.slice A2 (ns[i]).length c2) ∧ (∀ o, w.frozen? ⟨g, o, none⟩ = false) ∧ Reads w w.heap.size (.slice A2 (ns[i]).length c2) (keysD ns[i]) := by
  obtain ⟨xs, h1, h2, h3⟩ := h
  rcases row_cases h1 with ⟨_, h0, _⟩ | ⟨g, cap, rfl, hb, hR, hn, hc, hx⟩
  · omega
  · have hxi : i < xs.length := by omega
    have hr := h2.reads.2 i hxi (by simpa using hi)
    rw [List.getElem_map] at hr
    have hcell := hR.cell hxi
    obtain ⟨A2, c2, e, _, _⟩ := hr.shapeK
    rw [e] at hr hcell
    exact ⟨g, cap, A2, c2, rfl, hb, fun e => h3 (by rw [← e]; rfl), hR.lt, hcell, fun o => hR.frozen o, hr⟩
theorem OwnsL.setN {w : World} {S T : Nat → Prop} {vs : List Value} {cs : List Dat} {i : Nat} {u : Value} {c : Dat} (h : OwnsL w S vs cs) (hu : Owns w T u c) (hd : ∀ b, S b → ¬ T b) : OwnsL w (fun b => S b ∨ T b) (vs.set i u) (cs.set i c) := by
  obtain ⟨hl, F, ho, hF, hj⟩ := h
  refine ⟨by simp [hl], fun j b => (j = i ∧ T b) ∨ (j ≠ i ∧ F j b), fun j a b => ?_, fun j b hb => ?_, fun j k b hjk hb hb' => ?_⟩
  · simp only [List.length_set] at a b
    by_cases hij : i = j
    · subst hij; rw [List.getElem_set_self, List.getElem_set_self]; exact hu.mono (fun b hb => .inl ⟨rfl, hb⟩)
    · rw [List.getElem_set_ne hij, List.getElem_set_ne hij]; exact (ho j a b).mono (fun b hb => .inr ⟨Ne.symm hij, hb⟩)
  · rcases hb with ⟨_, hb⟩ | ⟨_, hb⟩
    · exact .inr hb
    · exact .inl (hF j b hb)
  · rcases hb with ⟨h1, hb⟩ | ⟨h1, hb⟩ <;> rcases hb' with ⟨h2, hb'⟩ | ⟨h2, hb'⟩
    · omega
    · exact hd b (hF k b hb') hb
    · exact hd b (hF j b hb) hb'
    · exact hj j k b hjk hb hb'
theorem NOwn.put {w w' : World} {base bo g cap : Nat} {ns : List (List KeyD)} {x : Value} {l : List KeyD} {i : Nat} (h : NOwn w base bo (.slice (some ⟨g, 0, none⟩) ns.length cap) ns) (hi : i < ns.length) (hb : Below w.heap.size w w') (hx : RowK w' w.heap.size x l) (hbo : bo < w.heap.size) (hbase : base ≤ w.heap.size) :
    NOwn (w'.setCell ⟨g, i, none⟩ x) base bo (.slice (some ⟨g, 0, none⟩) ns.length cap) (ns.set i l) := by
  obtain ⟨xs, h1, h2, h3⟩ := h
  have hg := (row_lt h1 g rfl).1
  refine ⟨xs.set i x, ?_, ?_, h3⟩
  · have h := row_set (row_on h1 hb) i x
    rw [List.length_set]
    exact h
  · have k1 := (h2.lt.on hb).setN (i := i) hx.owns (fun b hb hb' => by have := hb.2; omega)
    rw [List.map_set]
    refine OwnsL.mono (k1.keep (w' := w'.setCell ⟨g, i, none⟩ x) (fun b hb _ => Below.heap_setCell _ _ _ _ ?_)) ?_
    · rintro rfl
      rcases hb with hb | hb
      · exact hb.1.2 rfl
      · omega
    · rintro b (hb | hb)
      · exact hb.1
      · exact ⟨⟨by omega, by omega⟩, by simp [Value.ownBlock]; omega⟩
end Go.Proofs.YtlhemcjahcmdeaaGreatDoor
namespace Go.Proofs.YtlhemcjahcmdeaaGreatDoor
open Go.RowKit
set_option maxRecDepth 100000
set_option linter.unusedSimpArgs false
set_option linter.unusedVariables false

/-- Owned cells, parted. -/
theorem OwnsL.split {w : World} {S : Nat → Prop} {vs : List Value} {cs : List Dat} (h : OwnsL w S vs cs) (i : Nat) : ∃ S1 S2 : Nat → Prop, OwnsL w S1 (vs.take i) (cs.take i) ∧ OwnsL w S2 (vs.drop i) (cs.drop i) ∧ (∀ b, S1 b → S b) ∧ (∀ b, S2 b → S b) ∧ ∀ b, S1 b → ¬ S2 b := by
  obtain ⟨hl, F, ho, hF, hd⟩ := h
  refine ⟨fun b => ∃ k, k < i ∧ F k b, fun b => ∃ k, i ≤ k ∧ F k b, ⟨by simp [hl], fun k b => k < i ∧ F k b, fun k a b => ?_, fun k b h => ⟨k, h⟩, fun k j b hkj h1 h2 => hd k j b hkj h1.2 h2.2⟩, ⟨by simp [hl], fun k b => F (i + k) b, fun k a b => ?_, fun k b h => ⟨i + k, by omega, h⟩, fun k j b hkj h1 h2 => hd _ _ b (by omega) h1 h2⟩, fun b ⟨k, _, h⟩ => hF k b h, fun b ⟨k, _, h⟩ => hF k b h, fun b ⟨k, h1, h2⟩ ⟨j, h3, h4⟩ => hd k j b (by omega) h2 h4⟩
  · simp only [List.length_take] at a b
    rw [List.getElem_take, List.getElem_take]
    exact (ho k (by omega) (by omega)).mono (fun b hb => ⟨by omega, hb⟩)
  · simp only [List.length_drop] at a b
    rw [List.getElem_drop, List.getElem_drop]
    exact ho (i + k) (by omega) (by omega)
end Go.Proofs.YtlhemcjahcmdeaaGreatDoor
namespace Go.Proofs.YtlhemcjahcmdeaaGreatDoor
open Go.RowKit
set_option maxRecDepth 100000
set_option linter.unusedSimpArgs false
set_option linter.unusedVariables false

/-- What a volume operation does to a valid pool: the pool behind, and the code (0: done). -/
abbrev Res := PoolD × Int
def mayB (d : PoolD) (s : ByteArray) : Bool := poolOkB d && nameOkB s
/-- An operation: the checks that all share, do, and the check of what came out. -/
def changeK (d : PoolD) (s : ByteArray) (f : PoolD → Res) : Res :=
  if mayB d s then (if (f d).2 = 0 then (if poolOkB (f d).1 then ((f d).1, 0) else (d, 6)) else (d, (f d).2)) else (d, 1)
def killD (s : ByteArray) (d : PoolD) : Res := if volK s d.vo < 0 then (d, 2) else ({ d with vo := d.vo.eraseIdx (volJ s d.vo) }, 0)
end Go.Proofs.YtlhemcjahcmdeaaGreatDoor
namespace Go.Proofs.YtlhemcjahcmdeaaGreatDoor
open Go.RowKit
set_option maxRecDepth 100000
set_option linter.unusedSimpArgs false
set_option linter.unusedVariables false

theorem PoolC.setFar {t : TypeId} {w : World} {S : Nat → Prop} {vl vn va vc vv u : Value} {d : PoolD} {g j : Nat} (h : PoolC t w S vl vn va vc vv d) (hg : ¬ S g) : PoolC t (w.setCell ⟨g, j, none⟩ u) S vl vn va vc vv d :=
  h.keep (fun b hb _ => Below.heap_setCell _ _ _ _ (fun e => hg (by have e' : b = g := e; rw [← e']; exact hb)))
theorem PoolC.ages {t : TypeId} {w w1 : World} {S : Nat → Prop} {vl vn va vc vv va' : Value} {d : PoolD} {ag : List AgeD} (h : PoolC t w S vl vn va vc vv d) (b : Below w.heap.size w w1) (o : Owns w1 (fun k => w.heap.size ≤ k) va' (agesD ag)) : PoolC t w1 (fun k => S k ∨ w.heap.size ≤ k) vl vn va' vc vv { d with ag := ag } := by
  obtain ⟨P, Q, R, T, p1, p2, p3, p4, p5, p6, p7, h1, h2, h3, h4⟩ := (h.lt).on b
  exact ⟨P, fun k => w.heap.size ≤ k, R, T, fun k hk => .inl (p1 k hk).1, fun k hk => .inr hk, fun k hk => .inl (p3 k hk).1, fun k hk => .inl (p4 k hk).1, fun k hk => ⟨fun h => by have := (p1 k hk).2; omega, (p5 k hk).2.1, (p5 k hk).2.2⟩, fun k hk => ⟨fun h => by have := (p3 k h).2; omega, fun h => by have := (p4 k h).2; omega⟩, p7, h1, o, h3, h4⟩
theorem PoolC.vols {t : TypeId} {w w1 : World} {S : Nat → Prop} {vl vn va vc vv vv' : Value} {d : PoolD} {vo : List VolD} (h : PoolC t w S vl vn va vc vv d) (b : Below w.heap.size w w1) (o : Owns w1 (fun k => w.heap.size ≤ k) vv' (volsD vo)) : PoolC t w1 (fun k => S k ∨ w.heap.size ≤ k) vl vn va vc vv' { d with vo := vo } := by
  obtain ⟨P, Q, R, T, p1, p2, p3, p4, p5, p6, p7, h1, h2, h3, h4⟩ := (h.lt).on b
  exact ⟨P, Q, R, fun k => w.heap.size ≤ k, fun k hk => .inl (p1 k hk).1, fun k hk => .inl (p2 k hk).1, fun k hk => .inl (p3 k hk).1, fun k hk => .inr hk, fun k hk => ⟨(p5 k hk).1, (p5 k hk).2.1, fun h => by have := (p1 k hk).2; omega⟩, fun k hk => ⟨(p6 k hk).1, fun h => by have := (p2 k hk).2; omega⟩, fun k hk h => by have := (p3 k hk).2; omega, h1, h2, h3, o⟩
theorem PoolC.cels {t t' : TypeId} {w w1 : World} {S : Nat → Prop} {vl vn va vc vv vc' : Value} {d : PoolD} {ce : List CelD} (h : PoolC t w S vl vn va vc vv d) (b : Below w.heap.size w w1) (o : Owns w1 (fun k => w.heap.size ≤ k) vc' (celsT t' ce)) : PoolC t' w1 (fun k => S k ∨ w.heap.size ≤ k) vl vn va vc' vv { d with ce := ce } := by
  obtain ⟨P, Q, R, T, p1, p2, p3, p4, p5, p6, p7, h1, h2, h3, h4⟩ := (h.lt).on b
  exact ⟨P, Q, fun k => w.heap.size ≤ k, T, fun k hk => .inl (p1 k hk).1, fun k hk => .inl (p2 k hk).1, fun k hk => .inr hk, fun k hk => .inl (p4 k hk).1, fun k hk => ⟨(p5 k hk).1, fun h => by have := (p1 k hk).2; omega, (p5 k hk).2.2⟩, fun k hk => ⟨fun h => by have := (p2 k hk).2; omega, (p6 k hk).2⟩, fun k hk h => by have := (p4 k h).2; omega, h1, h2, o, h4⟩
theorem PoolC.tree {t : TypeId} {w w1 : World} {S : Nat → Prop} {vl vn va vc vv vl' vn' : Value} {d : PoolD} {lo : List Int} {ts : List NodeD} (h : PoolC t w S vl vn va vc vv d) (b : Below w.heap.size w w1) (o : TreeC w1 (fun k => w.heap.size ≤ k) vl' vn' lo ts) : PoolC t w1 (fun k => S k ∨ w.heap.size ≤ k) vl' vn' va vc vv { d with lo := lo, ts := ts } := by
  obtain ⟨P, Q, R, T, p1, p2, p3, p4, p5, p6, p7, h1, h2, h3, h4⟩ := (h.lt).on b
  exact ⟨fun k => w.heap.size ≤ k, Q, R, T, fun k hk => .inr hk, fun k hk => .inl (p2 k hk).1, fun k hk => .inl (p3 k hk).1, fun k hk => .inl (p4 k hk).1, fun k hk => ⟨fun h => by have := (p2 k h).2; omega, fun h => by have := (p3 k h).2; omega, fun h => by have := (p4 k h).2; omega⟩, p6, p7, o, h2, h3, h4⟩
theorem row_ownsT {w : World} {base e z n : Nat} {v : Value} {xs : List Value} {cs : List Dat} (h : w.ownsRow base e z v n xs) (S : Nat → Prop) (hS : ∀ g, v.ownBlock = some g → S g) (ho : OwnsL w (fun b => S b ∧ v.ownBlock ≠ some b) xs cs) (hl : cs.length = n * z) : Owns w S v (.row e z n cs) := by
  rcases row_cases h with ⟨rfl, rfl, rfl⟩ | ⟨g, cap, rfl, hb, hR, hn, hc, _⟩
  · have : cs = [] := List.length_eq_zero_iff.1 (by simpa using hl)
    subst this
    exact .nil _ _ _
  · exact hR.owns (hS g rfl) (ho.mono (fun b hb => ⟨hb.1, fun e => hb.2 (by rw [e]; rfl)⟩)) hn hc hl
/-- The error that bears a code; nil where it is 0. -/
def errV (c : Int) : Value := if c = 0 then .nilIface else .iface 137 (.agg #[.int .i64 c])
/-- The call yields a pool of its own and a code. -/
def NewPn (w : World) (r : PoolD × Int) (e : Ending) (w' : World) : Prop := ∃ t vl vn va vc vv, e = .returned (.tuple #[.agg #[vl, vn, va, vc, vv, .int .i64 r.1.nx], .int .i64 r.2]) ∧ PoolC t w' (fun b => w.heap.size ≤ b) vl vn va vc vv r.1 ∧ Below w.heap.size w w'
/-- An operation on the pool in box q has done r: its error; where there is none, the pool lies in the box. -/
def DidP (w : World) (q : Nat) (S : Nat → Prop) (r : PoolD × Int) (e : Ending) (w' : World) : Prop := e = .returned (errV r.2) ∧ Only (fun b => b = q ∨ S b) w w' ∧ (r.2 = 0 → ∃ t vl vn va vc vv, w'.heap[q]? = some (.cells #[vl, vn, va, vc, vv, .int .i64 r.1.nx] 32 (0, 0)) ∧ PoolC t w' (fun b => S b ∨ w.heap.size ≤ b) vl vn va vc vv r.1)
end Go.Proofs.YtlhemcjahcmdeaaGreatDoor
namespace Go.Proofs.YtlhemcjahcmdeaaGreatDoor
open Go.RowKit
set_option maxRecDepth 100000
set_option linter.unusedSimpArgs false
set_option linter.unusedVariables false

def lessVV : Value := .func (.func 189) #[] #[]
theorem store_lessV (a : Addr) (m : Mode) (w : World) : (store a (.func (.func 189) #[] #[]) m).run Tryz.prog w = stored Tryz.prog w a (.func (.func 189) #[] #[]) m := run_store _ w a _ m rfl
theorem volSet_any (A : Option Addr) (n c : Nat) (w : World) : Calls Tryz.prog 128 #[.slice A n c] w fun e w' => e = .returned (.agg #[.slice A n c, lessVV]) ∧ Below w.heap.size w w' := by
  have hst := store_lessV
  go_enter Tryz.func128, Tryz.ntmps128
  go_wp2
  exact bodyPost_ret (v := .agg #[.slice A n c, lessVV]) (by simp [results, Tryz.results128, go_sem, lessVV]) rfl ⟨rfl, bal1 _ _⟩
theorem lessVol_any (x y : VolD) (w : World) : Calls Tryz.prog 189 #[.agg #[.string x.a, .int .i64 x.b, .int .i64 x.c, .bool x.d], .agg #[.string y.a, .int .i64 y.b, .int .i64 y.c, .bool y.d]] w (SaysBool w (ltV x y)) := by
  cases hR : ltV x y
  all_goals
    have hS : Go.Op.bytesLess x.a.toList y.a.toList = _ := hR
    go_enter Tryz.func189, Tryz.ntmps189
    go_wp2
    go_ret
    exact ⟨rfl, bal2 _ _ _⟩
theorem ascB_snoc {l : List VolD} {j : Nat} (hlt : j + 1 < l.length) (h : ∀ i (h : i < j) (h2 : i + 1 < l.length), ltV l[i] l[i + 1] = true) (h2 : ltV l[j] l[j + 1] = true) : ∀ i (h : i < j + 1) (h2 : i + 1 < l.length), ltV l[i] l[i + 1] = true := by
  intro i hi h4
  by_cases h3 : i < j
  · exact h i h3 h4
  · have : i = j := by omega
    subst this
    exact h2
set_option maxHeartbeats 1000000 in
theorem ascendingV_any (v : Value) (l : List VolD) (w : World) (hv : Reads w w.heap.size v (volsD l)) (hn : l.length ≤ 2097152) : Calls Tryz.prog 285 #[.agg #[v, lessVV]] w (SaysBool w (ascB l)) := by
  obtain ⟨A, c, rfl, _, _⟩ := hv.shapeVol
  have HT := Lib.hid lessVol_any
  unfold lessVV
  have HV := Lib.hid (hv.on (bal1 w (.cells #[.slice A l.length c, .func (.func 189) #[] #[]] 160)))
  have Q0 := Lib.hid (al1 w (.cells #[.slice A l.length c, .func (.func 189) #[] #[]] 160))
  have HB := Lib.hid (bal1 w (.cells #[.slice A l.length c, .func (.func 189) #[] #[]] 160))
  clear hv
  go_enter Tryz.func285, Tryz.ntmps285
  go_wp2
  generalize w.alloc (.cells #[.slice A l.length c, .func (.func 189) #[] #[]] 160) = W at *
  go_loopw [3] (fun i wr => ∃ j : Nat, (j < l.length ∨ j = 0) ∧ i = .int .i64 ((j : Int) + 1) ∧ Hid (∀ i (h : i < j) (h2 : i + 1 < l.length), ltV l[i] l[i + 1] = true) ∧ Hid (Below W.heap.size W wr)) (fun i _ => l.length - (intOf i).toNat)
  case atStart => exact ⟨0, .inr rfl, rfl, Lib.hid (fun i h => by omega), Lib.hid (Below.refl _ _)⟩
  case round =>
    obtain ⟨j, hj, rfl, HI, HW⟩ := hrel
    obtain ⟨x0, x1, x2⟩ := box2 (box_on Q0.out HW.out)
    by_cases hlt : j + 1 < l.length
    · obtain ⟨b, off, rfl, hbb, hc⟩ := (HV.out.on HW.out).vols hlt
      have F := Lib.hid (hc j (by omega))
      have F' := Lib.hid (hc (j + 1) hlt)
      have i1 : (j : Int) + 1 < (l.length : Int) := by omega
      have i2 : (0 : Int) ≤ (j : Int) + 1 := by omega
      have i3 : IntKind.i64.wrap ((j : Int) + 1 - 1) = (j : Int) := by rw [IntKind.wrap_i64]; omega
      have i7 : IntKind.i64.wrap (j : Int) = (j : Int) := by rw [IntKind.wrap_i64]; omega
      have i4 : (j : Int) < (l.length : Int) := by omega
      have i5 : (0 : Int) ≤ (j : Int) := by omega
      have i6 : ((j : Int) + 1).toNat = j + 1 := by omega
      have HP := Lib.hid (box_on Q0.out HW.out)
      clear hc
      obtain ⟨c0, c1, c2, c3⟩ := F.out
      obtain ⟨d0, d1, d2, d3⟩ := F'.out
      cases hless : ltV l[j] l[j + 1]
      all_goals
        have HL := Lib.hid hless
        clear hless
        go_wp2
        go_region_held3 (fun W => W.cell? ⟨w.heap.size, 0, none⟩ = some (.slice (some ⟨b, off, none⟩) l.length c) ∧ W.cell? ⟨w.heap.size, 1, none⟩ = some (.func (.func 189) #[] #[]) ∧ W.cell? ⟨b, off + j * 4, none⟩ = some (.string (l[j]).a) ∧ W.cell? ⟨b, off + j * 4 + 1, none⟩ = some (.int .i64 (l[j]).b) ∧ W.cell? ⟨b, off + j * 4 + 2, none⟩ = some (.int .i64 (l[j]).c) ∧ W.cell? ⟨b, off + j * 4 + 3, none⟩ = some (.bool (l[j]).d) ∧ W.cell? ⟨b, off + (j + 1) * 4, none⟩ = some (.string (l[j + 1]).a) ∧ W.cell? ⟨b, off + (j + 1) * 4 + 1, none⟩ = some (.int .i64 (l[j + 1]).b) ∧ W.cell? ⟨b, off + (j + 1) * 4 + 2, none⟩ = some (.int .i64 (l[j + 1]).c) ∧ W.cell? ⟨b, off + (j + 1) * 4 + 3, none⟩ = some (.bool (l[j + 1]).d))
          (first | with_reducible exact ⟨(box2 (box_on HP.out B8)).1, (box2 (box_on HP.out B8)).2.1, (F.out.on hbb B8).1, (F.out.on hbb B8).2.1, (F.out.on hbb B8).2.2.1, (F.out.on hbb B8).2.2.2, (F'.out.on hbb B8).1, (F'.out.on hbb B8).2.1, (F'.out.on hbb B8).2.2.1, (F'.out.on hbb B8).2.2.2⟩ | with_reducible exact ⟨(box2 (box_on HP.out (Below.drew1 _))).1, (box2 (box_on HP.out (Below.drew1 _))).2.1, (F.out.on hbb (Below.drew1 _)).1, (F.out.on hbb (Below.drew1 _)).2.1, (F.out.on hbb (Below.drew1 _)).2.2.1, (F.out.on hbb (Below.drew1 _)).2.2.2, (F'.out.on hbb (Below.drew1 _)).1, (F'.out.on hbb (Below.drew1 _)).2.1, (F'.out.on hbb (Below.drew1 _)).2.2.1, (F'.out.on hbb (Below.drew1 _)).2.2.2⟩ | exact ⟨x0, x1, F.out.1, F.out.2.1, F.out.2.2.1, F.out.2.2.2, F'.out.1, F'.out.2.1, F'.out.2.2.1, F'.out.2.2.2⟩ | fail)
          (first
            | (go_at_call 189; refine (HT.out l[j] l[j + 1] _).mono ?_; rintro r w8 ⟨rfl, b8⟩; rw [HL.out]; have B8 := bstep (Below.drew1 _) b8)
            | fail)
        all_goals
          have BC := Lib.hid (HW.out.trans (B8.mono HW.out.size))
          clear B8 b8 c0 c1 c2 c3 d0 d1 d2 d3 x0 x1 x2
          go_wp2
          first
            | go_ret
              refine ⟨ret_boolB ?_, bstep HB.out BC.out⟩
              symm
              refine decide_eq_false (fun h => ?_)
              have h2 := h j (by omega)
              rw [HL.out] at h2
              cases h2
            | go_roundw
              case rel => exact ⟨j + 1, .inl hlt, by go_num, Lib.hid (ascB_snoc hlt HI.out HL.out), BC⟩
              case measure => simp [intOf]; omega
    · have i2 : ¬ (j : Int) + 1 < (l.length : Int) := by omega
      go_wp2
      go_ret
      refine ⟨ret_boolB ?_, bstep HB.out HW.out⟩
      symm
      exact decide_eq_true (fun i h => HI.out i (by omega) (by omega))
theorem sizeOk_any (n : Int) (w : World) : Calls Tryz.prog 126 #[.int .i64 n] w fun e w' => e = .returned (.bool (sizeB n)) ∧ w = w' := by
  unfold sizeB
  cases h1 : decide (1 ≤ n) <;> cases h2 : decide (n ≤ 12)
  all_goals
    go_enter Tryz.func126, Tryz.ntmps126
    go_wp2
    go_ret
    exact ⟨rfl, rfl⟩
end Go.Proofs.YtlhemcjahcmdeaaGreatDoor
namespace Go.Proofs.YtlhemcjahcmdeaaGreatDoor
open Go.RowKit
set_option maxRecDepth 100000
set_option linter.unusedSimpArgs false
set_option linter.unusedVariables false

theorem At.takeVol {w : World} {A : Option Addr} {l : List VolD} (h : At w A (volvl l)) (N : Nat) : At w A (volvl (l.take N)) := by
  have h1 : volvl l = volvl (l.take N) ++ volvl (l.drop N) := by rw [← volvl_append, List.take_append_drop]
  rw [h1] at h
  rcases h with h | ⟨b, off, rfl, hc⟩
  · exact .inl (List.append_eq_nil_iff.1 h).1
  · refine .inr ⟨b, off, rfl, fun i hi => ?_⟩
    rw [hc i (by rw [List.length_append]; omega), List.getElem_append_left hi]
/-- What a loop that appends volumes to a row of its own holds on to. -/
def GrowVol (w wr : World) (o : Value) (m : List VolD) : Prop := RowVol wr w.heap.size o m ∧ Below w.heap.size w wr
theorem GrowVol.on {w wr w' : World} {o : Value} {m : List VolD} (h : GrowVol w wr o m) (hb : Below wr.heap.size wr w') : GrowVol w w' o m := ⟨h.1.on hb, bstep h.2 hb⟩
theorem Reads.tailVol {w : World} {B b off n c : Nat} {e : TypeId} {l : List VolD} (h : Reads w B (.slice (some ⟨b, off, none⟩) n c) (.row e 4 l.length (l.flatMap volC))) (N : Nat) (hN : N < l.length) : b < B ∧ ∀ k (hk : k < (l.drop N).length), VolF w b (off + N * 4 + k * 4) (l.drop N)[k] := by
  obtain ⟨b', off', he, hb, hc⟩ := h.vols hN
  cases he
  refine ⟨hb, fun k hk => ?_⟩
  have h1 := hc (N + k) (by simp at hk; omega)
  rw [List.getElem_drop, Nat.add_assoc, ← Nat.add_mul]
  exact h1
end Go.Proofs.YtlhemcjahcmdeaaGreatDoor
namespace Go.Proofs.YtlhemcjahcmdeaaGreatDoor
open Go.RowKit
set_option maxRecDepth 100000
set_option linter.unusedSimpArgs false
set_option linter.unusedVariables false

/-- What a loop that appends versions to a row of its own holds on to. -/
def GrowG (w wr : World) (o : Value) (m : List AgeD) : Prop := RowG wr w.heap.size o m ∧ Below w.heap.size w wr
theorem GrowG.on {w wr w' : World} {o : Value} {m : List AgeD} (h : GrowG w wr o m) (hb : Below wr.heap.size wr w') : GrowG w w' o m := ⟨h.1.on hb, bstep h.2 hb⟩
end Go.Proofs.YtlhemcjahcmdeaaGreatDoor
namespace Go.Proofs.YtlhemcjahcmdeaaGreatDoor
open Go.RowKit
set_option maxRecDepth 100000
set_option linter.unusedSimpArgs false
set_option linter.unusedVariables false

set_option maxHeartbeats 4000000 in
theorem implAgesOk_any (v : Value) (l : List AgeD) (w : World) (hv : Reads w w.heap.size v (agesD l)) (hn : l.length ≤ 2097152) : Calls Tryz.prog 221 #[v] w (SaysBool w (agesOkB l)) := by
  obtain ⟨A, c, rfl, hcap, hmax⟩ := hv.shapeG
  have HK := Lib.hid (ageSet_any A l.length c)
  have HA := Lib.hid (fun w => ascendingG_any (.slice A l.length c) l w)
  unfold lessVG at HK HA
  obtain ⟨R, hR⟩ : ∃ R, agesOkB l = R := ⟨_, rfl⟩
  rw [hR]
  have HR := Lib.hid hR
  have HV := Lib.hid hv
  clear hv hR
  by_cases h16 : l.length ≤ 16
  · have d0 : decide ((16 : Int) < (l.length : Int)) = false := decide_eq_false (by omega)
    go_enter Tryz.func221, Tryz.ntmps221
    go_wp2
    go_loopw [3, 4, 10] (fun _ _ i wr => ∃ k : Nat, k ≤ l.length ∧ i = .int .i64 k ∧ Hid (∀ j, j < k → fitG l j = true) ∧ Hid (Below w.heap.size w wr)) (fun _ _ i _ => l.length - (intOf i).toNat)
    case atStart => exact ⟨0, Nat.zero_le _, rfl, Lib.hid (fun j h => by omega), Lib.hid (Below.refl _ _)⟩
    case round =>
      clear d0
      obtain ⟨k, hk, rfl, HI, HW⟩ := hrel
      have hzr := HW.out.size
      by_cases hlt : k < l.length
      · have HTK := Lib.hid (((HV.out.on HW.out).on (bal1 wr (.cells #[.int .i64 (l[k]).a, .int .i64 (l[k]).b] 155))).takeG k hk)
        obtain ⟨b, off, rfl, hbb, hc⟩ := (HV.out.on HW.out).ages hlt
        have i1 : (k : Int) < (l.length : Int) := by omega
        have i2 : (0 : Int) ≤ (k : Int) := by omega
        have i3 : (k : Int) ≤ (c : Int) := by omega
        have i4 : k ≤ c := by omega
        obtain ⟨c0, c1⟩ := hc k hlt
        have QA := Lib.hid (al1 wr (.cells #[.int .i64 (l[k]).a, .int .i64 (l[k]).b] 155))
        have BA := Lib.hid (HW.out.trans ((bal1 wr (.cells #[.int .i64 (l[k]).a, .int .i64 (l[k]).b] 155)).mono hzr))
        have hfit := gfit_at hlt
        clear hc
        go_upto_region 6 with (fail)
        clear c0 c1
        generalize wr.alloc (.cells #[.int .i64 (l[k]).a, .int .i64 (l[k]).b] 155) = wa at *
        by_cases p1 : (l[k]).a < 1
        · have HF : Hid (fitG l k = false) := Lib.hid (by rw [hfit, show idG (l[k]).a = false by simp [idG]; omega]; rfl)
          have d1 : decide ((l[k]).a < 1) = true := decide_eq_true p1
          clear p1 hfit
          refine but_begin (f := 16) (S := fun V => Below wa.drew.heap.size wa.drew V) (by kernel_rfl) ?_
          refine but_take (f := 16) (i := 0) (v := ?via0) rfl (by kernel_rfl) (by kernel_rfl) (by kernel_rfl) (by kernel_rfl) (by kernel_rfl) (fun _ _ _ h => h) (Or.inl ⟨(by rfl), ?hyia0⟩) (Below.refl _ _) ?restia0
          case hyia0 =>
            intro W hW
            go_simp
            exact rfl
          simp only [List.getElem_toArray, List.getElem_cons_succ, List.getElem_cons_zero, Act.put, List.setIfInBounds_toArray, List.set_cons_zero, List.set_cons_succ]
          refine but_take (f := 16) (i := 1) (v := ?via1) rfl (by kernel_rfl) (by kernel_rfl) (by kernel_rfl) (by kernel_rfl) (by kernel_rfl) (fun _ _ _ h => h) (Or.inl ⟨(by rfl), ?hyia1⟩) (Below.refl _ _) ?restia1
          case hyia1 =>
            intro W hW
            have hb0 : Below wa.heap.size wa W := bstep (Below.drew1 _) hW
            obtain ⟨y0, y1, y2⟩ := box2 (box_on QA.out hb0)
            go_simp
            exact rfl
          simp only [List.getElem_toArray, List.getElem_cons_succ, List.getElem_cons_zero, Act.put, List.setIfInBounds_toArray, List.set_cons_zero, List.set_cons_succ]
          refine but_take (f := 16) (i := 2) (v := ?via2) rfl (by kernel_rfl) (by kernel_rfl) (by kernel_rfl) (by kernel_rfl) (by kernel_rfl) (fun _ _ _ h => h) (Or.inl ⟨(by rfl), ?hyia2⟩) (Below.refl _ _) ?restia2
          case hyia2 =>
            intro W hW
            go_simp
            exact rfl
          simp only [List.getElem_toArray, List.getElem_cons_succ, List.getElem_cons_zero, Act.put, List.setIfInBounds_toArray, List.set_cons_zero, List.set_cons_succ]
          refine but_take (f := 16) (i := 3) (v := ?via3) rfl (by kernel_rfl) (by kernel_rfl) (by kernel_rfl) (by kernel_rfl) (by kernel_rfl) (fun _ _ _ h => h) (Or.inl ⟨(by rfl), ?hyia3⟩) (Below.refl _ _) ?restia3
          case hyia3 =>
            intro W hW
            go_simp
            exact rfl
          simp only [List.getElem_toArray, List.getElem_cons_succ, List.getElem_cons_zero, Act.put, List.setIfInBounds_toArray, List.set_cons_zero, List.set_cons_succ]
          refine but_take (f := 16) (i := 4) (v := undef) rfl (by kernel_rfl) (by kernel_rfl) (by kernel_rfl) (by kernel_rfl) (by kernel_rfl) (fun _ _ _ h => h) (Or.inr ⟨((wanted_at rfl rfl rfl rfl).trans rfl), rfl⟩) (Below.refl _ _) ?_
          simp only [List.getElem_toArray, List.getElem_cons_succ, List.getElem_cons_zero, Act.put, List.setIfInBounds_toArray, List.set_cons_zero, List.set_cons_succ]
          refine but_take (f := 16) (i := 5) (v := undef) rfl (by kernel_rfl) (by kernel_rfl) (by kernel_rfl) (by kernel_rfl) (by kernel_rfl) (fun _ _ _ h => h) (Or.inr ⟨((wanted_at rfl rfl rfl rfl).trans rfl), rfl⟩) (Below.refl _ _) ?_
          simp only [List.getElem_toArray, List.getElem_cons_succ, List.getElem_cons_zero, Act.put, List.setIfInBounds_toArray, List.set_cons_zero, List.set_cons_succ]
          refine but_take (f := 16) (i := 6) (v := undef) rfl (by kernel_rfl) (by kernel_rfl) (by kernel_rfl) (by kernel_rfl) (by kernel_rfl) (fun _ _ _ h => h) (Or.inr ⟨((wanted_at rfl rfl rfl rfl).trans rfl), rfl⟩) (Below.refl _ _) ?_
          simp only [List.getElem_toArray, List.getElem_cons_succ, List.getElem_cons_zero, Act.put, List.setIfInBounds_toArray, List.set_cons_zero, List.set_cons_succ]
          refine but_take (f := 16) (i := 7) (v := ?via7) rfl (by kernel_rfl) (by kernel_rfl) (by kernel_rfl) (by kernel_rfl) (by kernel_rfl) (fun _ _ _ h => h) (Or.inl ⟨(by rfl), ?hyia7⟩) (Below.refl _ _) ?restia7
          case hyia7 =>
            intro W hW
            go_simp
            exact rfl
          simp only [List.getElem_toArray, List.getElem_cons_succ, List.getElem_cons_zero, Act.put, List.setIfInBounds_toArray, List.set_cons_zero, List.set_cons_succ]
          refine but_take (f := 16) (i := 8) (v := ?via8) rfl (by kernel_rfl) (by kernel_rfl) (by kernel_rfl) (by kernel_rfl) (by kernel_rfl) (fun _ _ _ h => h) (Or.inl ⟨(by rfl), ?hyia8⟩) (Below.refl _ _) ?restia8
          case hyia8 =>
            intro W hW
            go_simp
            exact rfl
          simp only [List.getElem_toArray, List.getElem_cons_succ, List.getElem_cons_zero, Act.put, List.setIfInBounds_toArray, List.set_cons_zero, List.set_cons_succ]
          refine but_take (f := 16) (i := 9) (v := undef) rfl (by kernel_rfl) (by kernel_rfl) (by kernel_rfl) (by kernel_rfl) (by kernel_rfl) (fun _ _ _ h => h) (Or.inr ⟨((wanted_at rfl rfl rfl rfl).trans rfl), rfl⟩) (Below.refl _ _) ?_
          simp only [List.getElem_toArray, List.getElem_cons_succ, List.getElem_cons_zero, Act.put, List.setIfInBounds_toArray, List.set_cons_zero, List.set_cons_succ]
          refine but_take (f := 16) (i := 10) (v := undef) rfl (by kernel_rfl) (by kernel_rfl) (by kernel_rfl) (by kernel_rfl) (by kernel_rfl) (fun _ _ _ h => h) (Or.inr ⟨((wanted_at rfl rfl rfl rfl).trans rfl), rfl⟩) (Below.refl _ _) ?_
          simp only [List.getElem_toArray, List.getElem_cons_succ, List.getElem_cons_zero, Act.put, List.setIfInBounds_toArray, List.set_cons_zero, List.set_cons_succ]
          refine but_take (f := 16) (i := 11) (v := undef) rfl (by kernel_rfl) (by kernel_rfl) (by kernel_rfl) (by kernel_rfl) (by kernel_rfl) (fun _ _ _ h => h) (Or.inr ⟨((wanted_at rfl rfl rfl rfl).trans rfl), rfl⟩) (Below.refl _ _) ?_
          simp only [List.getElem_toArray, List.getElem_cons_succ, List.getElem_cons_zero, Act.put, List.setIfInBounds_toArray, List.set_cons_zero, List.set_cons_succ]
          refine but_take (f := 16) (i := 12) (v := undef) rfl (by kernel_rfl) (by kernel_rfl) (by kernel_rfl) (by kernel_rfl) (by kernel_rfl) (fun _ _ _ h => h) (Or.inr ⟨((wanted_at rfl rfl rfl rfl).trans rfl), rfl⟩) (Below.refl _ _) ?_
          simp only [List.getElem_toArray, List.getElem_cons_succ, List.getElem_cons_zero, Act.put, List.setIfInBounds_toArray, List.set_cons_zero, List.set_cons_succ]
          refine but_take (f := 16) (i := 13) (v := undef) rfl (by kernel_rfl) (by kernel_rfl) (by kernel_rfl) (by kernel_rfl) (by kernel_rfl) (fun _ _ _ h => h) (Or.inr ⟨((wanted_at rfl rfl rfl rfl).trans rfl), rfl⟩) (Below.refl _ _) ?_
          simp only [List.getElem_toArray, List.getElem_cons_succ, List.getElem_cons_zero, Act.put, List.setIfInBounds_toArray, List.set_cons_zero, List.set_cons_succ]
          refine but_take (f := 16) (i := 14) (v := undef) rfl (by kernel_rfl) (by kernel_rfl) (by kernel_rfl) (by kernel_rfl) (by kernel_rfl) (fun _ _ _ h => h) (Or.inr ⟨((wanted_at rfl rfl rfl rfl).trans rfl), rfl⟩) (Below.refl _ _) ?_
          simp only [List.getElem_toArray, List.getElem_cons_succ, List.getElem_cons_zero, Act.put, List.setIfInBounds_toArray, List.set_cons_zero, List.set_cons_succ]
          refine but_take (f := 16) (i := 15) (v := undef) rfl (by kernel_rfl) (by kernel_rfl) (by kernel_rfl) (by kernel_rfl) (by kernel_rfl) (fun _ _ _ h => h) (Or.inr ⟨((wanted_at rfl rfl rfl rfl).trans rfl), rfl⟩) (Below.refl _ _) ?_
          simp only [List.getElem_toArray, List.getElem_cons_succ, List.getElem_cons_zero, Act.put, List.setIfInBounds_toArray, List.set_cons_zero, List.set_cons_succ]
          refine but_run (i := 16) (by kernel_rfl) rfl (by rfl) ?_
          simp only [List.getElem_toArray, List.getElem_cons_succ, List.getElem_cons_zero]
          intro K HK
          go_wp2_with fail
          refine HK.out _ wa.drew (fun h => absurd rfl h) ?_
          clear HK
          refine but_done (by kernel_rfl) ?_
          go_wp2_with fail
          go_ret
          exact ⟨ret_boolB (by rw [← HR.out]; exact (fit_miss hlt HF.out).symm), bstep BA.out (bstep (Below.drew1 _) (Below.refl _ _))⟩
        · by_cases p2 : 60 < (l[k]).a
          · have HF : Hid (fitG l k = false) := Lib.hid (by rw [hfit, show idG (l[k]).a = false by simp [idG]; omega]; rfl)
            have d1 : decide ((l[k]).a < 1) = false := decide_eq_false p1
            have d2 : decide (60 < (l[k]).a) = true := decide_eq_true p2
            clear p1 p2 hfit
            refine but_begin (f := 16) (S := fun V => Below wa.drew.heap.size wa.drew V) (by kernel_rfl) ?_
            refine but_take (f := 16) (i := 0) (v := ?vib0) rfl (by kernel_rfl) (by kernel_rfl) (by kernel_rfl) (by kernel_rfl) (by kernel_rfl) (fun _ _ _ h => h) (Or.inl ⟨(by rfl), ?hyib0⟩) (Below.refl _ _) ?restib0
            case hyib0 =>
              intro W hW
              go_simp
              exact rfl
            simp only [List.getElem_toArray, List.getElem_cons_succ, List.getElem_cons_zero, Act.put, List.setIfInBounds_toArray, List.set_cons_zero, List.set_cons_succ]
            refine but_take (f := 16) (i := 1) (v := ?vib1) rfl (by kernel_rfl) (by kernel_rfl) (by kernel_rfl) (by kernel_rfl) (by kernel_rfl) (fun _ _ _ h => h) (Or.inl ⟨(by rfl), ?hyib1⟩) (Below.refl _ _) ?restib1
            case hyib1 =>
              intro W hW
              have hb0 : Below wa.heap.size wa W := bstep (Below.drew1 _) hW
              obtain ⟨y0, y1, y2⟩ := box2 (box_on QA.out hb0)
              go_simp
              exact rfl
            simp only [List.getElem_toArray, List.getElem_cons_succ, List.getElem_cons_zero, Act.put, List.setIfInBounds_toArray, List.set_cons_zero, List.set_cons_succ]
            refine but_take (f := 16) (i := 2) (v := ?vib2) rfl (by kernel_rfl) (by kernel_rfl) (by kernel_rfl) (by kernel_rfl) (by kernel_rfl) (fun _ _ _ h => h) (Or.inl ⟨(by rfl), ?hyib2⟩) (Below.refl _ _) ?restib2
            case hyib2 =>
              intro W hW
              go_simp
              exact rfl
            simp only [List.getElem_toArray, List.getElem_cons_succ, List.getElem_cons_zero, Act.put, List.setIfInBounds_toArray, List.set_cons_zero, List.set_cons_succ]
            refine but_take (f := 16) (i := 3) (v := ?vib3) rfl (by kernel_rfl) (by kernel_rfl) (by kernel_rfl) (by kernel_rfl) (by kernel_rfl) (fun _ _ _ h => h) (Or.inl ⟨(by rfl), ?hyib3⟩) (Below.refl _ _) ?restib3
            case hyib3 =>
              intro W hW
              go_simp
              exact rfl
            simp only [List.getElem_toArray, List.getElem_cons_succ, List.getElem_cons_zero, Act.put, List.setIfInBounds_toArray, List.set_cons_zero, List.set_cons_succ]
            refine but_take (f := 16) (i := 4) (v := ?vib4) rfl (by kernel_rfl) (by kernel_rfl) (by kernel_rfl) (by kernel_rfl) (by kernel_rfl) (fun _ _ _ h => h) (Or.inl ⟨((wanted_at rfl rfl rfl rfl).trans rfl), ?hyib4⟩) (Below.refl _ _) ?restib4
            case hyib4 =>
              intro W hW
              go_simp
              exact rfl
            simp only [List.getElem_toArray, List.getElem_cons_succ, List.getElem_cons_zero, Act.put, List.setIfInBounds_toArray, List.set_cons_zero, List.set_cons_succ]
            refine but_take (f := 16) (i := 5) (v := ?vib5) rfl (by kernel_rfl) (by kernel_rfl) (by kernel_rfl) (by kernel_rfl) (by kernel_rfl) (fun _ _ _ h => h) (Or.inl ⟨((wanted_at rfl rfl rfl rfl).trans rfl), ?hyib5⟩) (Below.refl _ _) ?restib5
            case hyib5 =>
              intro W hW
              have hb0 : Below wa.heap.size wa W := bstep (Below.drew1 _) hW
              obtain ⟨y0, y1, y2⟩ := box2 (box_on QA.out hb0)
              go_simp
              exact rfl
            simp only [List.getElem_toArray, List.getElem_cons_succ, List.getElem_cons_zero, Act.put, List.setIfInBounds_toArray, List.set_cons_zero, List.set_cons_succ]
            refine but_take (f := 16) (i := 6) (v := ?vib6) rfl (by kernel_rfl) (by kernel_rfl) (by kernel_rfl) (by kernel_rfl) (by kernel_rfl) (fun _ _ _ h => h) (Or.inl ⟨((wanted_at rfl rfl rfl rfl).trans rfl), ?hyib6⟩) (Below.refl _ _) ?restib6
            case hyib6 =>
              intro W hW
              go_simp
              exact rfl
            simp only [List.getElem_toArray, List.getElem_cons_succ, List.getElem_cons_zero, Act.put, List.setIfInBounds_toArray, List.set_cons_zero, List.set_cons_succ]
            refine but_take (f := 16) (i := 7) (v := ?vib7) rfl (by kernel_rfl) (by kernel_rfl) (by kernel_rfl) (by kernel_rfl) (by kernel_rfl) (fun _ _ _ h => h) (Or.inl ⟨(by rfl), ?hyib7⟩) (Below.refl _ _) ?restib7
            case hyib7 =>
              intro W hW
              go_simp
              exact rfl
            simp only [List.getElem_toArray, List.getElem_cons_succ, List.getElem_cons_zero, Act.put, List.setIfInBounds_toArray, List.set_cons_zero, List.set_cons_succ]
            refine but_take (f := 16) (i := 8) (v := ?vib8) rfl (by kernel_rfl) (by kernel_rfl) (by kernel_rfl) (by kernel_rfl) (by kernel_rfl) (fun _ _ _ h => h) (Or.inl ⟨(by rfl), ?hyib8⟩) (Below.refl _ _) ?restib8
            case hyib8 =>
              intro W hW
              go_simp
              exact rfl
            simp only [List.getElem_toArray, List.getElem_cons_succ, List.getElem_cons_zero, Act.put, List.setIfInBounds_toArray, List.set_cons_zero, List.set_cons_succ]
            refine but_take (f := 16) (i := 9) (v := undef) rfl (by kernel_rfl) (by kernel_rfl) (by kernel_rfl) (by kernel_rfl) (by kernel_rfl) (fun _ _ _ h => h) (Or.inr ⟨((wanted_at rfl rfl rfl rfl).trans rfl), rfl⟩) (Below.refl _ _) ?_
            simp only [List.getElem_toArray, List.getElem_cons_succ, List.getElem_cons_zero, Act.put, List.setIfInBounds_toArray, List.set_cons_zero, List.set_cons_succ]
            refine but_take (f := 16) (i := 10) (v := undef) rfl (by kernel_rfl) (by kernel_rfl) (by kernel_rfl) (by kernel_rfl) (by kernel_rfl) (fun _ _ _ h => h) (Or.inr ⟨((wanted_at rfl rfl rfl rfl).trans rfl), rfl⟩) (Below.refl _ _) ?_
            simp only [List.getElem_toArray, List.getElem_cons_succ, List.getElem_cons_zero, Act.put, List.setIfInBounds_toArray, List.set_cons_zero, List.set_cons_succ]
            refine but_take (f := 16) (i := 11) (v := undef) rfl (by kernel_rfl) (by kernel_rfl) (by kernel_rfl) (by kernel_rfl) (by kernel_rfl) (fun _ _ _ h => h) (Or.inr ⟨((wanted_at rfl rfl rfl rfl).trans rfl), rfl⟩) (Below.refl _ _) ?_
            simp only [List.getElem_toArray, List.getElem_cons_succ, List.getElem_cons_zero, Act.put, List.setIfInBounds_toArray, List.set_cons_zero, List.set_cons_succ]
            refine but_take (f := 16) (i := 12) (v := undef) rfl (by kernel_rfl) (by kernel_rfl) (by kernel_rfl) (by kernel_rfl) (by kernel_rfl) (fun _ _ _ h => h) (Or.inr ⟨((wanted_at rfl rfl rfl rfl).trans rfl), rfl⟩) (Below.refl _ _) ?_
            simp only [List.getElem_toArray, List.getElem_cons_succ, List.getElem_cons_zero, Act.put, List.setIfInBounds_toArray, List.set_cons_zero, List.set_cons_succ]
            refine but_take (f := 16) (i := 13) (v := undef) rfl (by kernel_rfl) (by kernel_rfl) (by kernel_rfl) (by kernel_rfl) (by kernel_rfl) (fun _ _ _ h => h) (Or.inr ⟨((wanted_at rfl rfl rfl rfl).trans rfl), rfl⟩) (Below.refl _ _) ?_
            simp only [List.getElem_toArray, List.getElem_cons_succ, List.getElem_cons_zero, Act.put, List.setIfInBounds_toArray, List.set_cons_zero, List.set_cons_succ]
            refine but_take (f := 16) (i := 14) (v := undef) rfl (by kernel_rfl) (by kernel_rfl) (by kernel_rfl) (by kernel_rfl) (by kernel_rfl) (fun _ _ _ h => h) (Or.inr ⟨((wanted_at rfl rfl rfl rfl).trans rfl), rfl⟩) (Below.refl _ _) ?_
            simp only [List.getElem_toArray, List.getElem_cons_succ, List.getElem_cons_zero, Act.put, List.setIfInBounds_toArray, List.set_cons_zero, List.set_cons_succ]
            refine but_take (f := 16) (i := 15) (v := undef) rfl (by kernel_rfl) (by kernel_rfl) (by kernel_rfl) (by kernel_rfl) (by kernel_rfl) (fun _ _ _ h => h) (Or.inr ⟨((wanted_at rfl rfl rfl rfl).trans rfl), rfl⟩) (Below.refl _ _) ?_
            simp only [List.getElem_toArray, List.getElem_cons_succ, List.getElem_cons_zero, Act.put, List.setIfInBounds_toArray, List.set_cons_zero, List.set_cons_succ]
            refine but_run (i := 16) (by kernel_rfl) rfl (by rfl) ?_
            simp only [List.getElem_toArray, List.getElem_cons_succ, List.getElem_cons_zero]
            intro K HK
            go_wp2_with fail
            refine HK.out _ wa.drew (fun h => absurd rfl h) ?_
            clear HK
            refine but_done (by kernel_rfl) ?_
            go_wp2_with fail
            go_ret
            exact ⟨ret_boolB (by rw [← HR.out]; exact (fit_miss hlt HF.out).symm), bstep BA.out (bstep (Below.drew1 _) (Below.refl _ _))⟩
          · have hid : idG (l[k]).a = true := by simp [idG]; omega
            have d1 : decide ((l[k]).a < 1) = false := decide_eq_false p1
            have d2 : decide (60 < (l[k]).a) = false := decide_eq_false p2
            cases hp : ((l[k]).b == 0 || hasG (l.take k) (l[k]).b)
            · have HP := Lib.hid hp
              have HF : Hid (fitG l k = false) := Lib.hid (by rw [hfit, hid, parGB, hp]; rfl)
              clear p1 p2 hfit hid hp
              refine but_begin (f := 16) (S := fun V => Below wa.drew.heap.size wa.drew V) (by kernel_rfl) ?_
              refine but_take (f := 16) (i := 0) (v := ?vic0) rfl (by kernel_rfl) (by kernel_rfl) (by kernel_rfl) (by kernel_rfl) (by kernel_rfl) (fun _ _ _ h => h) (Or.inl ⟨(by rfl), ?hyic0⟩) (Below.refl _ _) ?restic0
              case hyic0 =>
                intro W hW
                go_simp
                exact rfl
              simp only [List.getElem_toArray, List.getElem_cons_succ, List.getElem_cons_zero, Act.put, List.setIfInBounds_toArray, List.set_cons_zero, List.set_cons_succ]
              refine but_take (f := 16) (i := 1) (v := ?vic1) rfl (by kernel_rfl) (by kernel_rfl) (by kernel_rfl) (by kernel_rfl) (by kernel_rfl) (fun _ _ _ h => h) (Or.inl ⟨(by rfl), ?hyic1⟩) (Below.refl _ _) ?restic1
              case hyic1 =>
                intro W hW
                have hb0 : Below wa.heap.size wa W := bstep (Below.drew1 _) hW
                obtain ⟨y0, y1, y2⟩ := box2 (box_on QA.out hb0)
                go_simp
                exact rfl
              simp only [List.getElem_toArray, List.getElem_cons_succ, List.getElem_cons_zero, Act.put, List.setIfInBounds_toArray, List.set_cons_zero, List.set_cons_succ]
              refine but_take (f := 16) (i := 2) (v := ?vic2) rfl (by kernel_rfl) (by kernel_rfl) (by kernel_rfl) (by kernel_rfl) (by kernel_rfl) (fun _ _ _ h => h) (Or.inl ⟨(by rfl), ?hyic2⟩) (Below.refl _ _) ?restic2
              case hyic2 =>
                intro W hW
                go_simp
                exact rfl
              simp only [List.getElem_toArray, List.getElem_cons_succ, List.getElem_cons_zero, Act.put, List.setIfInBounds_toArray, List.set_cons_zero, List.set_cons_succ]
              refine but_take (f := 16) (i := 3) (v := ?vic3) rfl (by kernel_rfl) (by kernel_rfl) (by kernel_rfl) (by kernel_rfl) (by kernel_rfl) (fun _ _ _ h => h) (Or.inl ⟨(by rfl), ?hyic3⟩) (Below.refl _ _) ?restic3
              case hyic3 =>
                intro W hW
                go_simp
                exact rfl
              simp only [List.getElem_toArray, List.getElem_cons_succ, List.getElem_cons_zero, Act.put, List.setIfInBounds_toArray, List.set_cons_zero, List.set_cons_succ]
              refine but_take (f := 16) (i := 4) (v := ?vic4) rfl (by kernel_rfl) (by kernel_rfl) (by kernel_rfl) (by kernel_rfl) (by kernel_rfl) (fun _ _ _ h => h) (Or.inl ⟨((wanted_at rfl rfl rfl rfl).trans rfl), ?hyic4⟩) (Below.refl _ _) ?restic4
              case hyic4 =>
                intro W hW
                go_simp
                exact rfl
              simp only [List.getElem_toArray, List.getElem_cons_succ, List.getElem_cons_zero, Act.put, List.setIfInBounds_toArray, List.set_cons_zero, List.set_cons_succ]
              refine but_take (f := 16) (i := 5) (v := ?vic5) rfl (by kernel_rfl) (by kernel_rfl) (by kernel_rfl) (by kernel_rfl) (by kernel_rfl) (fun _ _ _ h => h) (Or.inl ⟨((wanted_at rfl rfl rfl rfl).trans rfl), ?hyic5⟩) (Below.refl _ _) ?restic5
              case hyic5 =>
                intro W hW
                have hb0 : Below wa.heap.size wa W := bstep (Below.drew1 _) hW
                obtain ⟨y0, y1, y2⟩ := box2 (box_on QA.out hb0)
                go_simp
                exact rfl
              simp only [List.getElem_toArray, List.getElem_cons_succ, List.getElem_cons_zero, Act.put, List.setIfInBounds_toArray, List.set_cons_zero, List.set_cons_succ]
              refine but_take (f := 16) (i := 6) (v := ?vic6) rfl (by kernel_rfl) (by kernel_rfl) (by kernel_rfl) (by kernel_rfl) (by kernel_rfl) (fun _ _ _ h => h) (Or.inl ⟨((wanted_at rfl rfl rfl rfl).trans rfl), ?hyic6⟩) (Below.refl _ _) ?restic6
              case hyic6 =>
                intro W hW
                go_simp
                exact rfl
              simp only [List.getElem_toArray, List.getElem_cons_succ, List.getElem_cons_zero, Act.put, List.setIfInBounds_toArray, List.set_cons_zero, List.set_cons_succ]
              refine but_take (f := 16) (i := 7) (v := ?vic7) rfl (by kernel_rfl) (by kernel_rfl) (by kernel_rfl) (by kernel_rfl) (by kernel_rfl) (fun _ _ _ h => h) (Or.inl ⟨(by rfl), ?hyic7⟩) (Below.refl _ _) ?restic7
              case hyic7 =>
                intro W hW
                go_simp
                exact rfl
              simp only [List.getElem_toArray, List.getElem_cons_succ, List.getElem_cons_zero, Act.put, List.setIfInBounds_toArray, List.set_cons_zero, List.set_cons_succ]
              refine but_take (f := 16) (i := 8) (v := ?vic8) rfl (by kernel_rfl) (by kernel_rfl) (by kernel_rfl) (by kernel_rfl) (by kernel_rfl) (fun _ _ _ h => h) (Or.inl ⟨(by rfl), ?hyic8⟩) (Below.refl _ _) ?restic8
              case hyic8 =>
                intro W hW
                go_simp
                exact rfl
              simp only [List.getElem_toArray, List.getElem_cons_succ, List.getElem_cons_zero, Act.put, List.setIfInBounds_toArray, List.set_cons_zero, List.set_cons_succ]
              refine but_take (f := 16) (i := 9) (v := ?vic9) rfl (by kernel_rfl) (by kernel_rfl) (by kernel_rfl) (by kernel_rfl) (by kernel_rfl) (fun _ _ _ h => h) (Or.inl ⟨((wanted_at rfl rfl rfl rfl).trans rfl), ?hyic9⟩) (Below.refl _ _) ?restic9
              case hyic9 =>
                intro W hW
                go_simp
                exact rfl
              simp only [List.getElem_toArray, List.getElem_cons_succ, List.getElem_cons_zero, Act.put, List.setIfInBounds_toArray, List.set_cons_zero, List.set_cons_succ]
              refine but_take (f := 16) (i := 10) (v := ?vic10) rfl (by kernel_rfl) (by kernel_rfl) (by kernel_rfl) (by kernel_rfl) (by kernel_rfl) (fun _ _ _ h => h) (Or.inl ⟨((wanted_at rfl rfl rfl rfl).trans rfl), ?hyic10⟩) (Below.refl _ _) ?restic10
              case hyic10 =>
                intro W hW
                go_simp
                exact rfl
              simp only [List.getElem_toArray, List.getElem_cons_succ, List.getElem_cons_zero, Act.put, List.setIfInBounds_toArray, List.set_cons_zero, List.set_cons_succ]
              refine but_take (f := 16) (i := 11) (v := ?vic11) rfl (by kernel_rfl) (by kernel_rfl) (by kernel_rfl) (by kernel_rfl) (by kernel_rfl) (fun _ _ _ h => h) (Or.inl ⟨((wanted_at rfl rfl rfl rfl).trans rfl), ?hyic11⟩) (Below.refl _ _) ?restic11
              case hyic11 =>
                intro W hW
                go_simp
                exact rfl
              simp only [List.getElem_toArray, List.getElem_cons_succ, List.getElem_cons_zero, Act.put, List.setIfInBounds_toArray, List.set_cons_zero, List.set_cons_succ]
              refine but_take (f := 16) (i := 12) (v := ?vic12) rfl (by kernel_rfl) (by kernel_rfl) (by kernel_rfl) (by kernel_rfl) (by kernel_rfl) (fun _ _ _ h => h) (Or.inl ⟨((wanted_at rfl rfl rfl rfl).trans rfl), ?hyic12⟩) (Below.refl _ _) ?restic12
              case hyic12 =>
                intro W hW
                go_simp
                exact rfl
              simp only [List.getElem_toArray, List.getElem_cons_succ, List.getElem_cons_zero, Act.put, List.setIfInBounds_toArray, List.set_cons_zero, List.set_cons_succ]
              refine but_take (f := 16) (i := 13) (v := ?vic13) rfl (by kernel_rfl) (by kernel_rfl) (by kernel_rfl) (by kernel_rfl) (by kernel_rfl) (fun _ _ _ h => h) (Or.inl ⟨((wanted_at rfl rfl rfl rfl).trans rfl), ?hyic13⟩) (Below.refl _ _) ?restic13
              case hyic13 =>
                intro W hW
                have hb0 : Below wa.heap.size wa W := bstep (Below.drew1 _) hW
                obtain ⟨y0, y1, y2⟩ := box2 (box_on QA.out hb0)
                go_simp
                exact rfl
              simp only [List.getElem_toArray, List.getElem_cons_succ, List.getElem_cons_zero, Act.put, List.setIfInBounds_toArray, List.set_cons_zero, List.set_cons_succ]
              refine but_run (i := 14) (by kernel_rfl) rfl ((wanted_at rfl rfl rfl rfl).trans rfl) ?_
              simp only [List.getElem_toArray, List.getElem_cons_succ, List.getElem_cons_zero]
              intro K HK
              go_wp2_with fail
              refine (parentOk_any _ (l.take k) (l[k]).b _ (HTK.out.on (bstep (Below.drew1 _) (Below.refl _ _))) (by simp; omega)).mono ?_
              rintro r Vic1 ⟨rfl, hBic1⟩
              rw [HP.out]
              have hSic1 := bstep (Below.refl _ _) hBic1
              go_wp2_with fail
              refine HK.out _ Vic1 (fun _ => hSic1) ?_
              clear HK
              refine but_take (f := 16) (i := 15) (v := ?vic15) rfl (by kernel_rfl) (by kernel_rfl) (by kernel_rfl) (by kernel_rfl) (by kernel_rfl) (fun _ _ _ h => h) (Or.inl ⟨((wanted_at rfl rfl rfl rfl).trans rfl), ?hyic15⟩) hSic1 ?restic15
              case hyic15 =>
                intro W hW
                go_simp
                exact rfl
              simp only [List.getElem_toArray, List.getElem_cons_succ, List.getElem_cons_zero, Act.put, List.setIfInBounds_toArray, List.set_cons_zero, List.set_cons_succ]
              refine but_run (i := 16) (by kernel_rfl) rfl (by rfl) ?_
              simp only [List.getElem_toArray, List.getElem_cons_succ, List.getElem_cons_zero]
              intro K HK
              go_wp2_with fail
              refine HK.out _ Vic1 (fun h => absurd rfl h) ?_
              clear HK
              refine but_done (by kernel_rfl) ?_
              go_wp2_with fail
              go_ret
              exact ⟨ret_boolB (by rw [← HR.out]; exact (fit_miss hlt HF.out).symm), bstep BA.out (bstep (Below.drew1 _) hSic1)⟩
            · have HP := Lib.hid hp
              have HF : Hid (fitG l k = true) := Lib.hid (by rw [hfit, hid, parGB, hp]; rfl)
              clear p1 p2 hfit hid hp
              refine but_begin (f := 16) (S := fun V => Below wa.drew.heap.size wa.drew V) (by kernel_rfl) ?_
              refine but_take (f := 16) (i := 0) (v := ?vid0) rfl (by kernel_rfl) (by kernel_rfl) (by kernel_rfl) (by kernel_rfl) (by kernel_rfl) (fun _ _ _ h => h) (Or.inl ⟨(by rfl), ?hyid0⟩) (Below.refl _ _) ?restid0
              case hyid0 =>
                intro W hW
                go_simp
                exact rfl
              simp only [List.getElem_toArray, List.getElem_cons_succ, List.getElem_cons_zero, Act.put, List.setIfInBounds_toArray, List.set_cons_zero, List.set_cons_succ]
              refine but_take (f := 16) (i := 1) (v := ?vid1) rfl (by kernel_rfl) (by kernel_rfl) (by kernel_rfl) (by kernel_rfl) (by kernel_rfl) (fun _ _ _ h => h) (Or.inl ⟨(by rfl), ?hyid1⟩) (Below.refl _ _) ?restid1
              case hyid1 =>
                intro W hW
                have hb0 : Below wa.heap.size wa W := bstep (Below.drew1 _) hW
                obtain ⟨y0, y1, y2⟩ := box2 (box_on QA.out hb0)
                go_simp
                exact rfl
              simp only [List.getElem_toArray, List.getElem_cons_succ, List.getElem_cons_zero, Act.put, List.setIfInBounds_toArray, List.set_cons_zero, List.set_cons_succ]
              refine but_take (f := 16) (i := 2) (v := ?vid2) rfl (by kernel_rfl) (by kernel_rfl) (by kernel_rfl) (by kernel_rfl) (by kernel_rfl) (fun _ _ _ h => h) (Or.inl ⟨(by rfl), ?hyid2⟩) (Below.refl _ _) ?restid2
              case hyid2 =>
                intro W hW
                go_simp
                exact rfl
              simp only [List.getElem_toArray, List.getElem_cons_succ, List.getElem_cons_zero, Act.put, List.setIfInBounds_toArray, List.set_cons_zero, List.set_cons_succ]
              refine but_take (f := 16) (i := 3) (v := ?vid3) rfl (by kernel_rfl) (by kernel_rfl) (by kernel_rfl) (by kernel_rfl) (by kernel_rfl) (fun _ _ _ h => h) (Or.inl ⟨(by rfl), ?hyid3⟩) (Below.refl _ _) ?restid3
              case hyid3 =>
                intro W hW
                go_simp
                exact rfl
              simp only [List.getElem_toArray, List.getElem_cons_succ, List.getElem_cons_zero, Act.put, List.setIfInBounds_toArray, List.set_cons_zero, List.set_cons_succ]
              refine but_take (f := 16) (i := 4) (v := ?vid4) rfl (by kernel_rfl) (by kernel_rfl) (by kernel_rfl) (by kernel_rfl) (by kernel_rfl) (fun _ _ _ h => h) (Or.inl ⟨((wanted_at rfl rfl rfl rfl).trans rfl), ?hyid4⟩) (Below.refl _ _) ?restid4
              case hyid4 =>
                intro W hW
                go_simp
                exact rfl
              simp only [List.getElem_toArray, List.getElem_cons_succ, List.getElem_cons_zero, Act.put, List.setIfInBounds_toArray, List.set_cons_zero, List.set_cons_succ]
              refine but_take (f := 16) (i := 5) (v := ?vid5) rfl (by kernel_rfl) (by kernel_rfl) (by kernel_rfl) (by kernel_rfl) (by kernel_rfl) (fun _ _ _ h => h) (Or.inl ⟨((wanted_at rfl rfl rfl rfl).trans rfl), ?hyid5⟩) (Below.refl _ _) ?restid5
              case hyid5 =>
                intro W hW
                have hb0 : Below wa.heap.size wa W := bstep (Below.drew1 _) hW
                obtain ⟨y0, y1, y2⟩ := box2 (box_on QA.out hb0)
                go_simp
                exact rfl
              simp only [List.getElem_toArray, List.getElem_cons_succ, List.getElem_cons_zero, Act.put, List.setIfInBounds_toArray, List.set_cons_zero, List.set_cons_succ]
              refine but_take (f := 16) (i := 6) (v := ?vid6) rfl (by kernel_rfl) (by kernel_rfl) (by kernel_rfl) (by kernel_rfl) (by kernel_rfl) (fun _ _ _ h => h) (Or.inl ⟨((wanted_at rfl rfl rfl rfl).trans rfl), ?hyid6⟩) (Below.refl _ _) ?restid6
              case hyid6 =>
                intro W hW
                go_simp
                exact rfl
              simp only [List.getElem_toArray, List.getElem_cons_succ, List.getElem_cons_zero, Act.put, List.setIfInBounds_toArray, List.set_cons_zero, List.set_cons_succ]
              refine but_take (f := 16) (i := 7) (v := ?vid7) rfl (by kernel_rfl) (by kernel_rfl) (by kernel_rfl) (by kernel_rfl) (by kernel_rfl) (fun _ _ _ h => h) (Or.inl ⟨(by rfl), ?hyid7⟩) (Below.refl _ _) ?restid7
              case hyid7 =>
                intro W hW
                go_simp
                exact rfl
              simp only [List.getElem_toArray, List.getElem_cons_succ, List.getElem_cons_zero, Act.put, List.setIfInBounds_toArray, List.set_cons_zero, List.set_cons_succ]
              refine but_take (f := 16) (i := 8) (v := ?vid8) rfl (by kernel_rfl) (by kernel_rfl) (by kernel_rfl) (by kernel_rfl) (by kernel_rfl) (fun _ _ _ h => h) (Or.inl ⟨(by rfl), ?hyid8⟩) (Below.refl _ _) ?restid8
              case hyid8 =>
                intro W hW
                go_simp
                exact rfl
              simp only [List.getElem_toArray, List.getElem_cons_succ, List.getElem_cons_zero, Act.put, List.setIfInBounds_toArray, List.set_cons_zero, List.set_cons_succ]
              refine but_take (f := 16) (i := 9) (v := ?vid9) rfl (by kernel_rfl) (by kernel_rfl) (by kernel_rfl) (by kernel_rfl) (by kernel_rfl) (fun _ _ _ h => h) (Or.inl ⟨((wanted_at rfl rfl rfl rfl).trans rfl), ?hyid9⟩) (Below.refl _ _) ?restid9
              case hyid9 =>
                intro W hW
                go_simp
                exact rfl
              simp only [List.getElem_toArray, List.getElem_cons_succ, List.getElem_cons_zero, Act.put, List.setIfInBounds_toArray, List.set_cons_zero, List.set_cons_succ]
              refine but_take (f := 16) (i := 10) (v := ?vid10) rfl (by kernel_rfl) (by kernel_rfl) (by kernel_rfl) (by kernel_rfl) (by kernel_rfl) (fun _ _ _ h => h) (Or.inl ⟨((wanted_at rfl rfl rfl rfl).trans rfl), ?hyid10⟩) (Below.refl _ _) ?restid10
              case hyid10 =>
                intro W hW
                go_simp
                exact rfl
              simp only [List.getElem_toArray, List.getElem_cons_succ, List.getElem_cons_zero, Act.put, List.setIfInBounds_toArray, List.set_cons_zero, List.set_cons_succ]
              refine but_take (f := 16) (i := 11) (v := ?vid11) rfl (by kernel_rfl) (by kernel_rfl) (by kernel_rfl) (by kernel_rfl) (by kernel_rfl) (fun _ _ _ h => h) (Or.inl ⟨((wanted_at rfl rfl rfl rfl).trans rfl), ?hyid11⟩) (Below.refl _ _) ?restid11
              case hyid11 =>
                intro W hW
                go_simp
                exact rfl
              simp only [List.getElem_toArray, List.getElem_cons_succ, List.getElem_cons_zero, Act.put, List.setIfInBounds_toArray, List.set_cons_zero, List.set_cons_succ]
              refine but_take (f := 16) (i := 12) (v := ?vid12) rfl (by kernel_rfl) (by kernel_rfl) (by kernel_rfl) (by kernel_rfl) (by kernel_rfl) (fun _ _ _ h => h) (Or.inl ⟨((wanted_at rfl rfl rfl rfl).trans rfl), ?hyid12⟩) (Below.refl _ _) ?restid12
              case hyid12 =>
                intro W hW
                go_simp
                exact rfl
              simp only [List.getElem_toArray, List.getElem_cons_succ, List.getElem_cons_zero, Act.put, List.setIfInBounds_toArray, List.set_cons_zero, List.set_cons_succ]
              refine but_take (f := 16) (i := 13) (v := ?vid13) rfl (by kernel_rfl) (by kernel_rfl) (by kernel_rfl) (by kernel_rfl) (by kernel_rfl) (fun _ _ _ h => h) (Or.inl ⟨((wanted_at rfl rfl rfl rfl).trans rfl), ?hyid13⟩) (Below.refl _ _) ?restid13
              case hyid13 =>
                intro W hW
                have hb0 : Below wa.heap.size wa W := bstep (Below.drew1 _) hW
                obtain ⟨y0, y1, y2⟩ := box2 (box_on QA.out hb0)
                go_simp
                exact rfl
              simp only [List.getElem_toArray, List.getElem_cons_succ, List.getElem_cons_zero, Act.put, List.setIfInBounds_toArray, List.set_cons_zero, List.set_cons_succ]
              refine but_run (i := 14) (by kernel_rfl) rfl ((wanted_at rfl rfl rfl rfl).trans rfl) ?_
              simp only [List.getElem_toArray, List.getElem_cons_succ, List.getElem_cons_zero]
              intro K HK
              go_wp2_with fail
              refine (parentOk_any _ (l.take k) (l[k]).b _ (HTK.out.on (bstep (Below.drew1 _) (Below.refl _ _))) (by simp; omega)).mono ?_
              rintro r Vid1 ⟨rfl, hBid1⟩
              rw [HP.out]
              have hSid1 := bstep (Below.refl _ _) hBid1
              go_wp2_with fail
              refine HK.out _ Vid1 (fun _ => hSid1) ?_
              clear HK
              refine but_take (f := 16) (i := 15) (v := ?vid15) rfl (by kernel_rfl) (by kernel_rfl) (by kernel_rfl) (by kernel_rfl) (by kernel_rfl) (fun _ _ _ h => h) (Or.inl ⟨((wanted_at rfl rfl rfl rfl).trans rfl), ?hyid15⟩) hSid1 ?restid15
              case hyid15 =>
                intro W hW
                go_simp
                exact rfl
              simp only [List.getElem_toArray, List.getElem_cons_succ, List.getElem_cons_zero, Act.put, List.setIfInBounds_toArray, List.set_cons_zero, List.set_cons_succ]
              refine but_run (i := 16) (by kernel_rfl) rfl (by rfl) ?_
              simp only [List.getElem_toArray, List.getElem_cons_succ, List.getElem_cons_zero]
              intro K HK
              go_wp2_with fail
              refine HK.out _ Vid1 (fun h => absurd rfl h) ?_
              clear HK
              refine but_done (by kernel_rfl) ?_
              go_wp2_with fail
              go_roundw
              case rel => exact ⟨k + 1, by omega, by go_num, Lib.hid (fit_step HI.out HF.out), Lib.hid (bstep BA.out (bstep (Below.drew1 _) hSid1))⟩
              case measure => simp [intOf]; omega
      · have hall : decide (∀ i, i < l.length → fitG l i = true) = true := decide_eq_true (fun i hi => HI.out i (by omega))
        have HL := Lib.hid hall
        clear hall
        go_wp2_with fail
        refine (HK.out _).mono ?_
        rintro r w1 ⟨rfl, b1⟩
        have B1 := Lib.hid (HW.out.trans (b1.mono hzr))
        clear b1
        go_wp2_with fail
        refine (HA.out _ (HV.out.on B1.out) hn).mono ?_
        rintro r w2 ⟨rfl, b2⟩
        have B2 := Lib.hid (bstep B1.out b2)
        clear b2
        go_wp2
        go_ret
        refine ⟨ret_boolB ?_, B2.out⟩
        rw [← HR.out, agesOkB, HL.out, decide_eq_true h16]
        simp
  · have d0 : decide ((16 : Int) < (l.length : Int)) = true := decide_eq_true (by omega)
    go_enter Tryz.func221, Tryz.ntmps221
    go_wp2
    go_ret
    refine ⟨ret_boolB ?_, Below.refl _ _⟩
    rw [← HR.out, agesOkB, decide_eq_false h16]
    simp
end Go.Proofs.YtlhemcjahcmdeaaGreatDoor
namespace Go.Proofs.YtlhemcjahcmdeaaGreatDoor
open Go.RowKit
set_option maxRecDepth 100000
set_option linter.unusedSimpArgs false
set_option linter.unusedVariables false

set_option maxHeartbeats 4000000 in
theorem specAgesOk_any (v : Value) (l : List AgeD) (w : World) (hv : Reads w w.heap.size v (agesD l)) (hn : l.length ≤ 2097152) : Calls Tryz.prog 134 #[v] w (SaysBool w (agesOkB l)) := by
  obtain ⟨A, c, rfl, hcap, hmax⟩ := hv.shapeG
  obtain ⟨R, hR⟩ : ∃ R, agesOkB l = R := ⟨_, rfl⟩
  rw [hR]
  have HR := Lib.hid hR
  have HV := Lib.hid hv
  clear hv hR
  go_enter Tryz.func134, Tryz.ntmps134
  go_wp2
  go_loopw [3] (fun i wr => ∃ k : Nat, k ≤ l.length ∧ i = .int .i64 k ∧ Hid (∀ j, j < k → fitG l j = true) ∧ Hid (∀ j (h : j + 1 < l.length), j + 1 < k → (l[j]).a < (l[j + 1]).a) ∧ Hid (Below w.heap.size w wr)) (fun i _ => l.length - (intOf i).toNat)
  case atStart => exact ⟨0, Nat.zero_le _, rfl, Lib.hid (fun j h => by omega), Lib.hid (fun j h h2 => by omega), Lib.hid (Below.refl _ _)⟩
  case round =>
    obtain ⟨k, hk, rfl, HI, HJ, HW⟩ := hrel
    by_cases hlt : k < l.length
    · have HTK := Lib.hid ((HV.out.on HW.out).takeG k hk)
      obtain ⟨b, off, rfl, hbb, hc⟩ := (HV.out.on HW.out).ages hlt
      have i1 : (k : Int) < (l.length : Int) := by omega
      have i2 : (0 : Int) ≤ (k : Int) := by omega
      have i3 : (k : Int) ≤ (c : Int) := by omega
      have i4 : k ≤ c := by omega
      have FK := Lib.hid (hc k hlt)
      have hfit := gfit_at hlt
      cases hid : idG (l[k]).a
      · have HID := Lib.hid hid
        have HBAD : Hid (agesOkB l = false) := Lib.hid (fit_miss hlt (by rw [hfit, hid]; rfl))
        clear hc hfit hid
        go_upto_region 4 with (fail)
        refine but_begin (f := 24) (S := fun V => Below wr.drew.heap.size wr.drew V) (by kernel_rfl) ?_
        refine but_take (f := 24) (i := 0) (v := ?vsb0) rfl (by kernel_rfl) (by kernel_rfl) (by kernel_rfl) (by kernel_rfl) (by kernel_rfl) (fun _ _ _ h => h) (Or.inl ⟨(by rfl), ?hysb0⟩) (Below.refl _ _) ?restsb0
        case hysb0 =>
          intro W hW
          go_simp
          exact rfl
        simp only [List.getElem_toArray, List.getElem_cons_succ, List.getElem_cons_zero, Act.put, List.setIfInBounds_toArray, List.set_cons_zero, List.set_cons_succ]
        refine but_take (f := 24) (i := 1) (v := ?vsb1) rfl (by kernel_rfl) (by kernel_rfl) (by kernel_rfl) (by kernel_rfl) (by kernel_rfl) (fun _ _ _ h => h) (Or.inl ⟨(by rfl), ?hysb1⟩) (Below.refl _ _) ?restsb1
        case hysb1 =>
          intro W hW
          go_simp
          exact rfl
        simp only [List.getElem_toArray, List.getElem_cons_succ, List.getElem_cons_zero, Act.put, List.setIfInBounds_toArray, List.set_cons_zero, List.set_cons_succ]
        refine but_take (f := 24) (i := 2) (v := ?vsb2) rfl (by kernel_rfl) (by kernel_rfl) (by kernel_rfl) (by kernel_rfl) (by kernel_rfl) (fun _ _ _ h => h) (Or.inl ⟨(by rfl), ?hysb2⟩) (Below.refl _ _) ?restsb2
        case hysb2 =>
          intro W hW
          go_simp
          exact rfl
        simp only [List.getElem_toArray, List.getElem_cons_succ, List.getElem_cons_zero, Act.put, List.setIfInBounds_toArray, List.set_cons_zero, List.set_cons_succ]
        refine but_take (f := 24) (i := 3) (v := ?vsb3) rfl (by kernel_rfl) (by kernel_rfl) (by kernel_rfl) (by kernel_rfl) (by kernel_rfl) (fun _ _ _ h => h) (Or.inl ⟨(by rfl), ?hysb3⟩) (Below.refl _ _) ?restsb3
        case hysb3 =>
          intro W hW
          go_simp
          exact rfl
        simp only [List.getElem_toArray, List.getElem_cons_succ, List.getElem_cons_zero, Act.put, List.setIfInBounds_toArray, List.set_cons_zero, List.set_cons_succ]
        refine but_take (f := 24) (i := 4) (v := ?vsb4) rfl (by kernel_rfl) (by kernel_rfl) (by kernel_rfl) (by kernel_rfl) (by kernel_rfl) (fun _ _ _ h => h) (Or.inl ⟨(by rfl), ?hysb4⟩) (Below.refl _ _) ?restsb4
        case hysb4 =>
          intro W hW
          have hb0 : Below wr.heap.size wr W := bstep (Below.drew1 _) hW
          obtain ⟨y0, y1⟩ := FK.out.on hbb hb0
          go_simp
          exact rfl
        simp only [List.getElem_toArray, List.getElem_cons_succ, List.getElem_cons_zero, Act.put, List.setIfInBounds_toArray, List.set_cons_zero, List.set_cons_succ]
        refine but_run (i := 5) (by kernel_rfl) rfl (by rfl) ?_
        simp only [List.getElem_toArray, List.getElem_cons_succ, List.getElem_cons_zero]
        intro K HK
        go_wp2_with fail
        refine (inG_any (l[k]).a _).mono ?_
        rintro r Vsb1 ⟨rfl, hBsb1⟩
        rw [HID.out]
        have hSsb1 := bstep (Below.refl _ _) hBsb1
        go_wp2_with fail
        refine HK.out _ Vsb1 (fun _ => hSsb1) ?_
        clear HK
        refine but_take (f := 24) (i := 6) (v := ?vsb6) rfl (by kernel_rfl) (by kernel_rfl) (by kernel_rfl) (by kernel_rfl) (by kernel_rfl) (fun _ _ _ h => h) (Or.inl ⟨(by rfl), ?hysb6⟩) hSsb1 ?restsb6
        case hysb6 =>
          intro W hW
          go_simp
          exact rfl
        simp only [List.getElem_toArray, List.getElem_cons_succ, List.getElem_cons_zero, Act.put, List.setIfInBounds_toArray, List.set_cons_zero, List.set_cons_succ]
        refine but_take (f := 24) (i := 7) (v := ?vsb7) rfl (by kernel_rfl) (by kernel_rfl) (by kernel_rfl) (by kernel_rfl) (by kernel_rfl) (fun _ _ _ h => h) (Or.inl ⟨(by rfl), ?hysb7⟩) hSsb1 ?restsb7
        case hysb7 =>
          intro W hW
          go_simp
          exact rfl
        simp only [List.getElem_toArray, List.getElem_cons_succ, List.getElem_cons_zero, Act.put, List.setIfInBounds_toArray, List.set_cons_zero, List.set_cons_succ]
        refine but_take (f := 24) (i := 8) (v := undef) rfl (by kernel_rfl) (by kernel_rfl) (by kernel_rfl) (by kernel_rfl) (by kernel_rfl) (fun _ _ _ h => h) (Or.inr ⟨((wanted_at rfl rfl rfl rfl).trans rfl), rfl⟩) hSsb1 ?_
        simp only [List.getElem_toArray, List.getElem_cons_succ, List.getElem_cons_zero, Act.put, List.setIfInBounds_toArray, List.set_cons_zero, List.set_cons_succ]
        refine but_take (f := 24) (i := 9) (v := undef) rfl (by kernel_rfl) (by kernel_rfl) (by kernel_rfl) (by kernel_rfl) (by kernel_rfl) (fun _ _ _ h => h) (Or.inr ⟨((wanted_at rfl rfl rfl rfl).trans rfl), rfl⟩) hSsb1 ?_
        simp only [List.getElem_toArray, List.getElem_cons_succ, List.getElem_cons_zero, Act.put, List.setIfInBounds_toArray, List.set_cons_zero, List.set_cons_succ]
        refine but_take (f := 24) (i := 10) (v := undef) rfl (by kernel_rfl) (by kernel_rfl) (by kernel_rfl) (by kernel_rfl) (by kernel_rfl) (fun _ _ _ h => h) (Or.inr ⟨((wanted_at rfl rfl rfl rfl).trans rfl), rfl⟩) hSsb1 ?_
        simp only [List.getElem_toArray, List.getElem_cons_succ, List.getElem_cons_zero, Act.put, List.setIfInBounds_toArray, List.set_cons_zero, List.set_cons_succ]
        refine but_take (f := 24) (i := 11) (v := undef) rfl (by kernel_rfl) (by kernel_rfl) (by kernel_rfl) (by kernel_rfl) (by kernel_rfl) (fun _ _ _ h => h) (Or.inr ⟨(wanted_un rfl rfl rfl rfl), rfl⟩) hSsb1 ?_
        simp only [List.getElem_toArray, List.getElem_cons_succ, List.getElem_cons_zero, Act.put, List.setIfInBounds_toArray, List.set_cons_zero, List.set_cons_succ]
        refine but_take (f := 24) (i := 12) (v := undef) rfl (by kernel_rfl) (by kernel_rfl) (by kernel_rfl) (by kernel_rfl) (by kernel_rfl) (fun _ _ _ h => h) (Or.inr ⟨(wanted_un rfl rfl rfl rfl), rfl⟩) hSsb1 ?_
        simp only [List.getElem_toArray, List.getElem_cons_succ, List.getElem_cons_zero, Act.put, List.setIfInBounds_toArray, List.set_cons_zero, List.set_cons_succ]
        refine but_take (f := 24) (i := 13) (v := undef) rfl (by kernel_rfl) (by kernel_rfl) (by kernel_rfl) (by kernel_rfl) (by kernel_rfl) (fun _ _ _ h => h) (Or.inr ⟨(wanted_un rfl rfl rfl rfl), rfl⟩) hSsb1 ?_
        simp only [List.getElem_toArray, List.getElem_cons_succ, List.getElem_cons_zero, Act.put, List.setIfInBounds_toArray, List.set_cons_zero, List.set_cons_succ]
        refine but_take (f := 24) (i := 14) (v := undef) rfl (by kernel_rfl) (by kernel_rfl) (by kernel_rfl) (by kernel_rfl) (by kernel_rfl) (fun _ _ _ h => h) (Or.inr ⟨(wanted_un rfl rfl rfl rfl), rfl⟩) hSsb1 ?_
        simp only [List.getElem_toArray, List.getElem_cons_succ, List.getElem_cons_zero, Act.put, List.setIfInBounds_toArray, List.set_cons_zero, List.set_cons_succ]
        refine but_take (f := 24) (i := 15) (v := undef) rfl (by kernel_rfl) (by kernel_rfl) (by kernel_rfl) (by kernel_rfl) (by kernel_rfl) (fun _ _ _ h => h) (Or.inr ⟨(wanted_un rfl rfl rfl rfl), rfl⟩) hSsb1 ?_
        simp only [List.getElem_toArray, List.getElem_cons_succ, List.getElem_cons_zero, Act.put, List.setIfInBounds_toArray, List.set_cons_zero, List.set_cons_succ]
        refine but_take (f := 24) (i := 16) (v := undef) rfl (by kernel_rfl) (by kernel_rfl) (by kernel_rfl) (by kernel_rfl) (by kernel_rfl) (fun _ _ _ h => h) (Or.inr ⟨(wanted_un rfl rfl rfl rfl), rfl⟩) hSsb1 ?_
        simp only [List.getElem_toArray, List.getElem_cons_succ, List.getElem_cons_zero, Act.put, List.setIfInBounds_toArray, List.set_cons_zero, List.set_cons_succ]
        refine but_take (f := 24) (i := 17) (v := undef) rfl (by kernel_rfl) (by kernel_rfl) (by kernel_rfl) (by kernel_rfl) (by kernel_rfl) (fun _ _ _ h => h) (Or.inr ⟨(wanted_un rfl rfl rfl rfl), rfl⟩) hSsb1 ?_
        simp only [List.getElem_toArray, List.getElem_cons_succ, List.getElem_cons_zero, Act.put, List.setIfInBounds_toArray, List.set_cons_zero, List.set_cons_succ]
        refine but_take (f := 24) (i := 18) (v := undef) rfl (by kernel_rfl) (by kernel_rfl) (by kernel_rfl) (by kernel_rfl) (by kernel_rfl) (fun _ _ _ h => h) (Or.inr ⟨(wanted_un rfl rfl rfl rfl), rfl⟩) hSsb1 ?_
        simp only [List.getElem_toArray, List.getElem_cons_succ, List.getElem_cons_zero, Act.put, List.setIfInBounds_toArray, List.set_cons_zero, List.set_cons_succ]
        refine but_take (f := 24) (i := 19) (v := undef) rfl (by kernel_rfl) (by kernel_rfl) (by kernel_rfl) (by kernel_rfl) (by kernel_rfl) (fun _ _ _ h => h) (Or.inr ⟨(wanted_un rfl rfl rfl rfl), rfl⟩) hSsb1 ?_
        simp only [List.getElem_toArray, List.getElem_cons_succ, List.getElem_cons_zero, Act.put, List.setIfInBounds_toArray, List.set_cons_zero, List.set_cons_succ]
        refine but_take (f := 24) (i := 20) (v := undef) rfl (by kernel_rfl) (by kernel_rfl) (by kernel_rfl) (by kernel_rfl) (by kernel_rfl) (fun _ _ _ h => h) (Or.inr ⟨(wanted_un rfl rfl rfl rfl), rfl⟩) hSsb1 ?_
        simp only [List.getElem_toArray, List.getElem_cons_succ, List.getElem_cons_zero, Act.put, List.setIfInBounds_toArray, List.set_cons_zero, List.set_cons_succ]
        refine but_take (f := 24) (i := 21) (v := undef) rfl (by kernel_rfl) (by kernel_rfl) (by kernel_rfl) (by kernel_rfl) (by kernel_rfl) (fun _ _ _ h => h) (Or.inr ⟨(wanted_un rfl rfl rfl rfl), rfl⟩) hSsb1 ?_
        simp only [List.getElem_toArray, List.getElem_cons_succ, List.getElem_cons_zero, Act.put, List.setIfInBounds_toArray, List.set_cons_zero, List.set_cons_succ]
        refine but_take (f := 24) (i := 22) (v := undef) rfl (by kernel_rfl) (by kernel_rfl) (by kernel_rfl) (by kernel_rfl) (by kernel_rfl) (fun _ _ _ h => h) (Or.inr ⟨(wanted_un rfl rfl rfl rfl), rfl⟩) hSsb1 ?_
        simp only [List.getElem_toArray, List.getElem_cons_succ, List.getElem_cons_zero, Act.put, List.setIfInBounds_toArray, List.set_cons_zero, List.set_cons_succ]
        refine but_take (f := 24) (i := 23) (v := undef) rfl (by kernel_rfl) (by kernel_rfl) (by kernel_rfl) (by kernel_rfl) (by kernel_rfl) (fun _ _ _ h => h) (Or.inr ⟨((wanted_at rfl rfl rfl rfl).trans rfl), rfl⟩) hSsb1 ?_
        simp only [List.getElem_toArray, List.getElem_cons_succ, List.getElem_cons_zero, Act.put, List.setIfInBounds_toArray, List.set_cons_zero, List.set_cons_succ]
        refine but_run (i := 24) (by kernel_rfl) rfl (by rfl) ?_
        simp only [List.getElem_toArray, List.getElem_cons_succ, List.getElem_cons_zero]
        intro K HK
        go_wp2_with fail
        refine HK.out _ Vsb1 (fun h => absurd rfl h) ?_
        clear HK
        refine but_done (by kernel_rfl) ?_
        go_wp2_with fail
        go_ret
        exact ⟨ret_boolB (by rw [← HR.out]; exact HBAD.out.symm), bstep HW.out (bstep (Below.drew1 _) hSsb1)⟩
      · have HID := Lib.hid hid
        by_cases hk0 : k = 0
        · have z0 : decide (0 < k) = false := decide_eq_false (by omega)
          have HJ2 : Hid (∀ j (h : j + 1 < l.length), j + 1 < k + 1 → (l[j]).a < (l[j + 1]).a) := Lib.hid (fun j h h2 => by omega)
          clear hc hid hk0
          go_upto_region 4 with (fail)
          refine but_begin (f := 24) (S := fun V => Below wr.drew.heap.size wr.drew V) (by kernel_rfl) ?_
          refine but_take (f := 24) (i := 0) (v := ?vs00) rfl (by kernel_rfl) (by kernel_rfl) (by kernel_rfl) (by kernel_rfl) (by kernel_rfl) (fun _ _ _ h => h) (Or.inl ⟨(by rfl), ?hys00⟩) (Below.refl _ _) ?rests00
          case hys00 =>
            intro W hW
            go_simp
            exact rfl
          simp only [List.getElem_toArray, List.getElem_cons_succ, List.getElem_cons_zero, Act.put, List.setIfInBounds_toArray, List.set_cons_zero, List.set_cons_succ]
          refine but_take (f := 24) (i := 1) (v := ?vs01) rfl (by kernel_rfl) (by kernel_rfl) (by kernel_rfl) (by kernel_rfl) (by kernel_rfl) (fun _ _ _ h => h) (Or.inl ⟨(by rfl), ?hys01⟩) (Below.refl _ _) ?rests01
          case hys01 =>
            intro W hW
            go_simp
            exact rfl
          simp only [List.getElem_toArray, List.getElem_cons_succ, List.getElem_cons_zero, Act.put, List.setIfInBounds_toArray, List.set_cons_zero, List.set_cons_succ]
          refine but_take (f := 24) (i := 2) (v := ?vs02) rfl (by kernel_rfl) (by kernel_rfl) (by kernel_rfl) (by kernel_rfl) (by kernel_rfl) (fun _ _ _ h => h) (Or.inl ⟨(by rfl), ?hys02⟩) (Below.refl _ _) ?rests02
          case hys02 =>
            intro W hW
            go_simp
            exact rfl
          simp only [List.getElem_toArray, List.getElem_cons_succ, List.getElem_cons_zero, Act.put, List.setIfInBounds_toArray, List.set_cons_zero, List.set_cons_succ]
          refine but_take (f := 24) (i := 3) (v := ?vs03) rfl (by kernel_rfl) (by kernel_rfl) (by kernel_rfl) (by kernel_rfl) (by kernel_rfl) (fun _ _ _ h => h) (Or.inl ⟨(by rfl), ?hys03⟩) (Below.refl _ _) ?rests03
          case hys03 =>
            intro W hW
            go_simp
            exact rfl
          simp only [List.getElem_toArray, List.getElem_cons_succ, List.getElem_cons_zero, Act.put, List.setIfInBounds_toArray, List.set_cons_zero, List.set_cons_succ]
          refine but_take (f := 24) (i := 4) (v := ?vs04) rfl (by kernel_rfl) (by kernel_rfl) (by kernel_rfl) (by kernel_rfl) (by kernel_rfl) (fun _ _ _ h => h) (Or.inl ⟨(by rfl), ?hys04⟩) (Below.refl _ _) ?rests04
          case hys04 =>
            intro W hW
            have hb0 : Below wr.heap.size wr W := bstep (Below.drew1 _) hW
            obtain ⟨y0, y1⟩ := FK.out.on hbb hb0
            go_simp
            exact rfl
          simp only [List.getElem_toArray, List.getElem_cons_succ, List.getElem_cons_zero, Act.put, List.setIfInBounds_toArray, List.set_cons_zero, List.set_cons_succ]
          refine but_run (i := 5) (by kernel_rfl) rfl (by rfl) ?_
          simp only [List.getElem_toArray, List.getElem_cons_succ, List.getElem_cons_zero]
          intro K HK
          go_wp2_with fail
          refine (inG_any (l[k]).a _).mono ?_
          rintro r Vs01 ⟨rfl, hBs01⟩
          rw [HID.out]
          have hSs01 := bstep (Below.refl _ _) hBs01
          go_wp2_with fail
          refine HK.out _ Vs01 (fun _ => hSs01) ?_
          clear HK
          refine but_take (f := 24) (i := 6) (v := ?vs06) rfl (by kernel_rfl) (by kernel_rfl) (by kernel_rfl) (by kernel_rfl) (by kernel_rfl) (fun _ _ _ h => h) (Or.inl ⟨(by rfl), ?hys06⟩) hSs01 ?rests06
          case hys06 =>
            intro W hW
            go_simp
            exact rfl
          simp only [List.getElem_toArray, List.getElem_cons_succ, List.getElem_cons_zero, Act.put, List.setIfInBounds_toArray, List.set_cons_zero, List.set_cons_succ]
          refine but_take (f := 24) (i := 7) (v := ?vs07) rfl (by kernel_rfl) (by kernel_rfl) (by kernel_rfl) (by kernel_rfl) (by kernel_rfl) (fun _ _ _ h => h) (Or.inl ⟨(by rfl), ?hys07⟩) hSs01 ?rests07
          case hys07 =>
            intro W hW
            go_simp
            exact rfl
          simp only [List.getElem_toArray, List.getElem_cons_succ, List.getElem_cons_zero, Act.put, List.setIfInBounds_toArray, List.set_cons_zero, List.set_cons_succ]
          refine but_take (f := 24) (i := 8) (v := ?vs08) rfl (by kernel_rfl) (by kernel_rfl) (by kernel_rfl) (by kernel_rfl) (by kernel_rfl) (fun _ _ _ h => h) (Or.inl ⟨((wanted_at rfl rfl rfl rfl).trans rfl), ?hys08⟩) hSs01 ?rests08
          case hys08 =>
            intro W hW
            go_simp
            exact rfl
          simp only [List.getElem_toArray, List.getElem_cons_succ, List.getElem_cons_zero, Act.put, List.setIfInBounds_toArray, List.set_cons_zero, List.set_cons_succ]
          refine but_take (f := 24) (i := 9) (v := ?vs09) rfl (by kernel_rfl) (by kernel_rfl) (by kernel_rfl) (by kernel_rfl) (by kernel_rfl) (fun _ _ _ h => h) (Or.inl ⟨((wanted_at rfl rfl rfl rfl).trans rfl), ?hys09⟩) hSs01 ?rests09
          case hys09 =>
            intro W hW
            go_simp
            exact rfl
          simp only [List.getElem_toArray, List.getElem_cons_succ, List.getElem_cons_zero, Act.put, List.setIfInBounds_toArray, List.set_cons_zero, List.set_cons_succ]
          refine but_take (f := 24) (i := 10) (v := ?vs010) rfl (by kernel_rfl) (by kernel_rfl) (by kernel_rfl) (by kernel_rfl) (by kernel_rfl) (fun _ _ _ h => h) (Or.inl ⟨((wanted_at rfl rfl rfl rfl).trans rfl), ?hys010⟩) hSs01 ?rests010
          case hys010 =>
            intro W hW
            go_simp
            exact rfl
          simp only [List.getElem_toArray, List.getElem_cons_succ, List.getElem_cons_zero, Act.put, List.setIfInBounds_toArray, List.set_cons_zero, List.set_cons_succ]
          refine but_take (f := 24) (i := 11) (v := undef) rfl (by kernel_rfl) (by kernel_rfl) (by kernel_rfl) (by kernel_rfl) (by kernel_rfl) (fun _ _ _ h => h) (Or.inr ⟨((wanted_at rfl rfl rfl rfl).trans rfl), rfl⟩) hSs01 ?_
          simp only [List.getElem_toArray, List.getElem_cons_succ, List.getElem_cons_zero, Act.put, List.setIfInBounds_toArray, List.set_cons_zero, List.set_cons_succ]
          refine but_take (f := 24) (i := 12) (v := undef) rfl (by kernel_rfl) (by kernel_rfl) (by kernel_rfl) (by kernel_rfl) (by kernel_rfl) (fun _ _ _ h => h) (Or.inr ⟨((wanted_at rfl rfl rfl rfl).trans rfl), rfl⟩) hSs01 ?_
          simp only [List.getElem_toArray, List.getElem_cons_succ, List.getElem_cons_zero, Act.put, List.setIfInBounds_toArray, List.set_cons_zero, List.set_cons_succ]
          refine but_take (f := 24) (i := 13) (v := undef) rfl (by kernel_rfl) (by kernel_rfl) (by kernel_rfl) (by kernel_rfl) (by kernel_rfl) (fun _ _ _ h => h) (Or.inr ⟨((wanted_at rfl rfl rfl rfl).trans rfl), rfl⟩) hSs01 ?_
          simp only [List.getElem_toArray, List.getElem_cons_succ, List.getElem_cons_zero, Act.put, List.setIfInBounds_toArray, List.set_cons_zero, List.set_cons_succ]
          refine but_take (f := 24) (i := 14) (v := undef) rfl (by kernel_rfl) (by kernel_rfl) (by kernel_rfl) (by kernel_rfl) (by kernel_rfl) (fun _ _ _ h => h) (Or.inr ⟨((wanted_at rfl rfl rfl rfl).trans rfl), rfl⟩) hSs01 ?_
          simp only [List.getElem_toArray, List.getElem_cons_succ, List.getElem_cons_zero, Act.put, List.setIfInBounds_toArray, List.set_cons_zero, List.set_cons_succ]
          refine but_take (f := 24) (i := 15) (v := undef) rfl (by kernel_rfl) (by kernel_rfl) (by kernel_rfl) (by kernel_rfl) (by kernel_rfl) (fun _ _ _ h => h) (Or.inr ⟨((wanted_at rfl rfl rfl rfl).trans rfl), rfl⟩) hSs01 ?_
          simp only [List.getElem_toArray, List.getElem_cons_succ, List.getElem_cons_zero, Act.put, List.setIfInBounds_toArray, List.set_cons_zero, List.set_cons_succ]
          refine but_take (f := 24) (i := 16) (v := undef) rfl (by kernel_rfl) (by kernel_rfl) (by kernel_rfl) (by kernel_rfl) (by kernel_rfl) (fun _ _ _ h => h) (Or.inr ⟨((wanted_at rfl rfl rfl rfl).trans rfl), rfl⟩) hSs01 ?_
          simp only [List.getElem_toArray, List.getElem_cons_succ, List.getElem_cons_zero, Act.put, List.setIfInBounds_toArray, List.set_cons_zero, List.set_cons_succ]
          refine but_take (f := 24) (i := 17) (v := undef) rfl (by kernel_rfl) (by kernel_rfl) (by kernel_rfl) (by kernel_rfl) (by kernel_rfl) (fun _ _ _ h => h) (Or.inr ⟨((wanted_at rfl rfl rfl rfl).trans rfl), rfl⟩) hSs01 ?_
          simp only [List.getElem_toArray, List.getElem_cons_succ, List.getElem_cons_zero, Act.put, List.setIfInBounds_toArray, List.set_cons_zero, List.set_cons_succ]
          refine but_take (f := 24) (i := 18) (v := undef) rfl (by kernel_rfl) (by kernel_rfl) (by kernel_rfl) (by kernel_rfl) (by kernel_rfl) (fun _ _ _ h => h) (Or.inr ⟨((wanted_at rfl rfl rfl rfl).trans rfl), rfl⟩) hSs01 ?_
          simp only [List.getElem_toArray, List.getElem_cons_succ, List.getElem_cons_zero, Act.put, List.setIfInBounds_toArray, List.set_cons_zero, List.set_cons_succ]
          refine but_take (f := 24) (i := 19) (v := undef) rfl (by kernel_rfl) (by kernel_rfl) (by kernel_rfl) (by kernel_rfl) (by kernel_rfl) (fun _ _ _ h => h) (Or.inr ⟨((wanted_at rfl rfl rfl rfl).trans rfl), rfl⟩) hSs01 ?_
          simp only [List.getElem_toArray, List.getElem_cons_succ, List.getElem_cons_zero, Act.put, List.setIfInBounds_toArray, List.set_cons_zero, List.set_cons_succ]
          refine but_take (f := 24) (i := 20) (v := undef) rfl (by kernel_rfl) (by kernel_rfl) (by kernel_rfl) (by kernel_rfl) (by kernel_rfl) (fun _ _ _ h => h) (Or.inr ⟨((wanted_at rfl rfl rfl rfl).trans rfl), rfl⟩) hSs01 ?_
          simp only [List.getElem_toArray, List.getElem_cons_succ, List.getElem_cons_zero, Act.put, List.setIfInBounds_toArray, List.set_cons_zero, List.set_cons_succ]
          refine but_take (f := 24) (i := 21) (v := undef) rfl (by kernel_rfl) (by kernel_rfl) (by kernel_rfl) (by kernel_rfl) (by kernel_rfl) (fun _ _ _ h => h) (Or.inr ⟨((wanted_at rfl rfl rfl rfl).trans rfl), rfl⟩) hSs01 ?_
          simp only [List.getElem_toArray, List.getElem_cons_succ, List.getElem_cons_zero, Act.put, List.setIfInBounds_toArray, List.set_cons_zero, List.set_cons_succ]
          refine but_take (f := 24) (i := 22) (v := undef) rfl (by kernel_rfl) (by kernel_rfl) (by kernel_rfl) (by kernel_rfl) (by kernel_rfl) (fun _ _ _ h => h) (Or.inr ⟨((wanted_at rfl rfl rfl rfl).trans rfl), rfl⟩) hSs01 ?_
          simp only [List.getElem_toArray, List.getElem_cons_succ, List.getElem_cons_zero, Act.put, List.setIfInBounds_toArray, List.set_cons_zero, List.set_cons_succ]
          refine but_take (f := 24) (i := 23) (v := ?vs023) rfl (by kernel_rfl) (by kernel_rfl) (by kernel_rfl) (by kernel_rfl) (by kernel_rfl) (fun _ _ _ h => h) (Or.inl ⟨((wanted_at rfl rfl rfl rfl).trans rfl), ?hys023⟩) hSs01 ?rests023
          case hys023 =>
            intro W hW
            go_simp
            exact rfl
          simp only [List.getElem_toArray, List.getElem_cons_succ, List.getElem_cons_zero, Act.put, List.setIfInBounds_toArray, List.set_cons_zero, List.set_cons_succ]
          refine but_run (i := 24) (by kernel_rfl) rfl (by rfl) ?_
          simp only [List.getElem_toArray, List.getElem_cons_succ, List.getElem_cons_zero]
          intro K HK
          go_wp2_with fail
          refine HK.out _ Vs01 (fun h => absurd rfl h) ?_
          clear HK
          refine but_done (by kernel_rfl) ?_
          have BV := Lib.hid (bstep (Below.drew1 _) hSs01)
          go_upto_region 6 with (fail)
          obtain ⟨wv, hwv⟩ : ∃ wv, wv = Vs01 := ⟨_, rfl⟩
          rw [← hwv] at BV ⊢
          clear hwv
          cases q0 : ((l[k]).b != 0)
          · have HF : Hid (fitG l k = true) := Lib.hid (by rw [hfit, HID.out, parGB, show ((l[k]).b == 0) = true by simpa using q0]; rfl)
            refine but_begin (f := 17) (S := fun V => Below wv.drew.heap.size wv.drew V) (by kernel_rfl) ?_
            refine but_take (f := 17) (i := 0) (v := ?vt0s00) rfl (by kernel_rfl) (by kernel_rfl) (by kernel_rfl) (by kernel_rfl) (by kernel_rfl) (fun _ _ _ h => h) (Or.inl ⟨(by rfl), ?hyt0s00⟩) (Below.refl _ _) ?restt0s00
            case hyt0s00 =>
              intro W hW
              go_simp
              exact rfl
            simp only [List.getElem_toArray, List.getElem_cons_succ, List.getElem_cons_zero, Act.put, List.setIfInBounds_toArray, List.set_cons_zero, List.set_cons_succ]
            refine but_take (f := 17) (i := 1) (v := ?vt0s01) rfl (by kernel_rfl) (by kernel_rfl) (by kernel_rfl) (by kernel_rfl) (by kernel_rfl) (fun _ _ _ h => h) (Or.inl ⟨(by rfl), ?hyt0s01⟩) (Below.refl _ _) ?restt0s01
            case hyt0s01 =>
              intro W hW
              go_simp
              exact rfl
            simp only [List.getElem_toArray, List.getElem_cons_succ, List.getElem_cons_zero, Act.put, List.setIfInBounds_toArray, List.set_cons_zero, List.set_cons_succ]
            refine but_take (f := 17) (i := 2) (v := ?vt0s02) rfl (by kernel_rfl) (by kernel_rfl) (by kernel_rfl) (by kernel_rfl) (by kernel_rfl) (fun _ _ _ h => h) (Or.inl ⟨(by rfl), ?hyt0s02⟩) (Below.refl _ _) ?restt0s02
            case hyt0s02 =>
              intro W hW
              go_simp
              exact rfl
            simp only [List.getElem_toArray, List.getElem_cons_succ, List.getElem_cons_zero, Act.put, List.setIfInBounds_toArray, List.set_cons_zero, List.set_cons_succ]
            refine but_take (f := 17) (i := 3) (v := ?vt0s03) rfl (by kernel_rfl) (by kernel_rfl) (by kernel_rfl) (by kernel_rfl) (by kernel_rfl) (fun _ _ _ h => h) (Or.inl ⟨(by rfl), ?hyt0s03⟩) (Below.refl _ _) ?restt0s03
            case hyt0s03 =>
              intro W hW
              go_simp
              exact rfl
            simp only [List.getElem_toArray, List.getElem_cons_succ, List.getElem_cons_zero, Act.put, List.setIfInBounds_toArray, List.set_cons_zero, List.set_cons_succ]
            refine but_take (f := 17) (i := 4) (v := ?vt0s04) rfl (by kernel_rfl) (by kernel_rfl) (by kernel_rfl) (by kernel_rfl) (by kernel_rfl) (fun _ _ _ h => h) (Or.inl ⟨(by rfl), ?hyt0s04⟩) (Below.refl _ _) ?restt0s04
            case hyt0s04 =>
              intro W hW
              have hb0 : Below wv.heap.size wv W := bstep (Below.drew1 _) hW
              obtain ⟨y0, y1⟩ := FK.out.on hbb (bstep BV.out hb0)
              go_simp
              exact rfl
            simp only [List.getElem_toArray, List.getElem_cons_succ, List.getElem_cons_zero, Act.put, List.setIfInBounds_toArray, List.set_cons_zero, List.set_cons_succ]
            refine but_take (f := 17) (i := 5) (v := ?vt0s05) rfl (by kernel_rfl) (by kernel_rfl) (by kernel_rfl) (by kernel_rfl) (by kernel_rfl) (fun _ _ _ h => h) (Or.inl ⟨(by rfl), ?hyt0s05⟩) (Below.refl _ _) ?restt0s05
            case hyt0s05 =>
              intro W hW
              go_simp
              exact rfl
            simp only [List.getElem_toArray, List.getElem_cons_succ, List.getElem_cons_zero, Act.put, List.setIfInBounds_toArray, List.set_cons_zero, List.set_cons_succ]
            refine but_take (f := 17) (i := 6) (v := ?vt0s06) rfl (by kernel_rfl) (by kernel_rfl) (by kernel_rfl) (by kernel_rfl) (by kernel_rfl) (fun _ _ _ h => h) (Or.inl ⟨(by rfl), ?hyt0s06⟩) (Below.refl _ _) ?restt0s06
            case hyt0s06 =>
              intro W hW
              go_simp
              exact rfl
            simp only [List.getElem_toArray, List.getElem_cons_succ, List.getElem_cons_zero, Act.put, List.setIfInBounds_toArray, List.set_cons_zero, List.set_cons_succ]
            refine but_take (f := 17) (i := 7) (v := undef) rfl (by kernel_rfl) (by kernel_rfl) (by kernel_rfl) (by kernel_rfl) (by kernel_rfl) (fun _ _ _ h => h) (Or.inr ⟨((wanted_at rfl rfl rfl rfl).trans rfl), rfl⟩) (Below.refl _ _) ?_
            simp only [List.getElem_toArray, List.getElem_cons_succ, List.getElem_cons_zero, Act.put, List.setIfInBounds_toArray, List.set_cons_zero, List.set_cons_succ]
            refine but_take (f := 17) (i := 8) (v := undef) rfl (by kernel_rfl) (by kernel_rfl) (by kernel_rfl) (by kernel_rfl) (by kernel_rfl) (fun _ _ _ h => h) (Or.inr ⟨((wanted_at rfl rfl rfl rfl).trans rfl), rfl⟩) (Below.refl _ _) ?_
            simp only [List.getElem_toArray, List.getElem_cons_succ, List.getElem_cons_zero, Act.put, List.setIfInBounds_toArray, List.set_cons_zero, List.set_cons_succ]
            refine but_take (f := 17) (i := 9) (v := undef) rfl (by kernel_rfl) (by kernel_rfl) (by kernel_rfl) (by kernel_rfl) (by kernel_rfl) (fun _ _ _ h => h) (Or.inr ⟨((wanted_at rfl rfl rfl rfl).trans rfl), rfl⟩) (Below.refl _ _) ?_
            simp only [List.getElem_toArray, List.getElem_cons_succ, List.getElem_cons_zero, Act.put, List.setIfInBounds_toArray, List.set_cons_zero, List.set_cons_succ]
            refine but_take (f := 17) (i := 10) (v := undef) rfl (by kernel_rfl) (by kernel_rfl) (by kernel_rfl) (by kernel_rfl) (by kernel_rfl) (fun _ _ _ h => h) (Or.inr ⟨((wanted_at rfl rfl rfl rfl).trans rfl), rfl⟩) (Below.refl _ _) ?_
            simp only [List.getElem_toArray, List.getElem_cons_succ, List.getElem_cons_zero, Act.put, List.setIfInBounds_toArray, List.set_cons_zero, List.set_cons_succ]
            refine but_take (f := 17) (i := 11) (v := undef) rfl (by kernel_rfl) (by kernel_rfl) (by kernel_rfl) (by kernel_rfl) (by kernel_rfl) (fun _ _ _ h => h) (Or.inr ⟨((wanted_at rfl rfl rfl rfl).trans rfl), rfl⟩) (Below.refl _ _) ?_
            simp only [List.getElem_toArray, List.getElem_cons_succ, List.getElem_cons_zero, Act.put, List.setIfInBounds_toArray, List.set_cons_zero, List.set_cons_succ]
            refine but_take (f := 17) (i := 12) (v := undef) rfl (by kernel_rfl) (by kernel_rfl) (by kernel_rfl) (by kernel_rfl) (by kernel_rfl) (fun _ _ _ h => h) (Or.inr ⟨((wanted_at rfl rfl rfl rfl).trans rfl), rfl⟩) (Below.refl _ _) ?_
            simp only [List.getElem_toArray, List.getElem_cons_succ, List.getElem_cons_zero, Act.put, List.setIfInBounds_toArray, List.set_cons_zero, List.set_cons_succ]
            refine but_take (f := 17) (i := 13) (v := undef) rfl (by kernel_rfl) (by kernel_rfl) (by kernel_rfl) (by kernel_rfl) (by kernel_rfl) (fun _ _ _ h => h) (Or.inr ⟨((wanted_at rfl rfl rfl rfl).trans rfl), rfl⟩) (Below.refl _ _) ?_
            simp only [List.getElem_toArray, List.getElem_cons_succ, List.getElem_cons_zero, Act.put, List.setIfInBounds_toArray, List.set_cons_zero, List.set_cons_succ]
            refine but_take (f := 17) (i := 14) (v := undef) rfl (by kernel_rfl) (by kernel_rfl) (by kernel_rfl) (by kernel_rfl) (by kernel_rfl) (fun _ _ _ h => h) (Or.inr ⟨((wanted_at rfl rfl rfl rfl).trans rfl), rfl⟩) (Below.refl _ _) ?_
            simp only [List.getElem_toArray, List.getElem_cons_succ, List.getElem_cons_zero, Act.put, List.setIfInBounds_toArray, List.set_cons_zero, List.set_cons_succ]
            refine but_take (f := 17) (i := 15) (v := undef) rfl (by kernel_rfl) (by kernel_rfl) (by kernel_rfl) (by kernel_rfl) (by kernel_rfl) (fun _ _ _ h => h) (Or.inr ⟨((wanted_at rfl rfl rfl rfl).trans rfl), rfl⟩) (Below.refl _ _) ?_
            simp only [List.getElem_toArray, List.getElem_cons_succ, List.getElem_cons_zero, Act.put, List.setIfInBounds_toArray, List.set_cons_zero, List.set_cons_succ]
            refine but_take (f := 17) (i := 16) (v := undef) rfl (by kernel_rfl) (by kernel_rfl) (by kernel_rfl) (by kernel_rfl) (by kernel_rfl) (fun _ _ _ h => h) (Or.inr ⟨((wanted_at rfl rfl rfl rfl).trans rfl), rfl⟩) (Below.refl _ _) ?_
            simp only [List.getElem_toArray, List.getElem_cons_succ, List.getElem_cons_zero, Act.put, List.setIfInBounds_toArray, List.set_cons_zero, List.set_cons_succ]
            refine but_run (i := 17) (by kernel_rfl) rfl (by rfl) ?_
            simp only [List.getElem_toArray, List.getElem_cons_succ, List.getElem_cons_zero]
            intro K HK
            go_wp2_with fail
            refine HK.out _ wv.drew (fun h => absurd rfl h) ?_
            clear HK
            refine but_done (by kernel_rfl) ?_
            go_wp2_with fail
            go_roundw
            case rel => exact ⟨k + 1, by omega, by go_num, Lib.hid (fit_step HI.out HF.out), HJ2, Lib.hid (bstep HW.out (bstep BV.out (bstep (Below.drew1 _) (Below.refl _ _))))⟩
            case measure => simp [intOf]; omega
          · have q9 : ((l[k]).b == 0) = false := by simpa using q0
            have hneg := ageAt_neg (l.take k) (l[k]).b
            cases q2 : hasG (l.take k) (l[k]).b
            · have HF : Hid (fitG l k = false) := Lib.hid (by rw [hfit, HID.out, parGB, q9, q2]; rfl)
              rw [q2] at hneg
              have q3 : decide (ageAtK (l.take k) (l[k]).b < 0) = true := hneg
              clear hneg q9 q2
              refine but_begin (f := 17) (S := fun V => Below wv.drew.heap.size wv.drew V) (by kernel_rfl) ?_
              refine but_take (f := 17) (i := 0) (v := ?vtxs00) rfl (by kernel_rfl) (by kernel_rfl) (by kernel_rfl) (by kernel_rfl) (by kernel_rfl) (fun _ _ _ h => h) (Or.inl ⟨(by rfl), ?hytxs00⟩) (Below.refl _ _) ?resttxs00
              case hytxs00 =>
                intro W hW
                go_simp
                exact rfl
              simp only [List.getElem_toArray, List.getElem_cons_succ, List.getElem_cons_zero, Act.put, List.setIfInBounds_toArray, List.set_cons_zero, List.set_cons_succ]
              refine but_take (f := 17) (i := 1) (v := ?vtxs01) rfl (by kernel_rfl) (by kernel_rfl) (by kernel_rfl) (by kernel_rfl) (by kernel_rfl) (fun _ _ _ h => h) (Or.inl ⟨(by rfl), ?hytxs01⟩) (Below.refl _ _) ?resttxs01
              case hytxs01 =>
                intro W hW
                go_simp
                exact rfl
              simp only [List.getElem_toArray, List.getElem_cons_succ, List.getElem_cons_zero, Act.put, List.setIfInBounds_toArray, List.set_cons_zero, List.set_cons_succ]
              refine but_take (f := 17) (i := 2) (v := ?vtxs02) rfl (by kernel_rfl) (by kernel_rfl) (by kernel_rfl) (by kernel_rfl) (by kernel_rfl) (fun _ _ _ h => h) (Or.inl ⟨(by rfl), ?hytxs02⟩) (Below.refl _ _) ?resttxs02
              case hytxs02 =>
                intro W hW
                go_simp
                exact rfl
              simp only [List.getElem_toArray, List.getElem_cons_succ, List.getElem_cons_zero, Act.put, List.setIfInBounds_toArray, List.set_cons_zero, List.set_cons_succ]
              refine but_take (f := 17) (i := 3) (v := ?vtxs03) rfl (by kernel_rfl) (by kernel_rfl) (by kernel_rfl) (by kernel_rfl) (by kernel_rfl) (fun _ _ _ h => h) (Or.inl ⟨(by rfl), ?hytxs03⟩) (Below.refl _ _) ?resttxs03
              case hytxs03 =>
                intro W hW
                go_simp
                exact rfl
              simp only [List.getElem_toArray, List.getElem_cons_succ, List.getElem_cons_zero, Act.put, List.setIfInBounds_toArray, List.set_cons_zero, List.set_cons_succ]
              refine but_take (f := 17) (i := 4) (v := ?vtxs04) rfl (by kernel_rfl) (by kernel_rfl) (by kernel_rfl) (by kernel_rfl) (by kernel_rfl) (fun _ _ _ h => h) (Or.inl ⟨(by rfl), ?hytxs04⟩) (Below.refl _ _) ?resttxs04
              case hytxs04 =>
                intro W hW
                have hb0 : Below wv.heap.size wv W := bstep (Below.drew1 _) hW
                obtain ⟨y0, y1⟩ := FK.out.on hbb (bstep BV.out hb0)
                go_simp
                exact rfl
              simp only [List.getElem_toArray, List.getElem_cons_succ, List.getElem_cons_zero, Act.put, List.setIfInBounds_toArray, List.set_cons_zero, List.set_cons_succ]
              refine but_take (f := 17) (i := 5) (v := ?vtxs05) rfl (by kernel_rfl) (by kernel_rfl) (by kernel_rfl) (by kernel_rfl) (by kernel_rfl) (fun _ _ _ h => h) (Or.inl ⟨(by rfl), ?hytxs05⟩) (Below.refl _ _) ?resttxs05
              case hytxs05 =>
                intro W hW
                go_simp
                exact rfl
              simp only [List.getElem_toArray, List.getElem_cons_succ, List.getElem_cons_zero, Act.put, List.setIfInBounds_toArray, List.set_cons_zero, List.set_cons_succ]
              refine but_take (f := 17) (i := 6) (v := ?vtxs06) rfl (by kernel_rfl) (by kernel_rfl) (by kernel_rfl) (by kernel_rfl) (by kernel_rfl) (fun _ _ _ h => h) (Or.inl ⟨(by rfl), ?hytxs06⟩) (Below.refl _ _) ?resttxs06
              case hytxs06 =>
                intro W hW
                go_simp
                exact rfl
              simp only [List.getElem_toArray, List.getElem_cons_succ, List.getElem_cons_zero, Act.put, List.setIfInBounds_toArray, List.set_cons_zero, List.set_cons_succ]
              refine but_take (f := 17) (i := 7) (v := ?vtxs07) rfl (by kernel_rfl) (by kernel_rfl) (by kernel_rfl) (by kernel_rfl) (by kernel_rfl) (fun _ _ _ h => h) (Or.inl ⟨((wanted_at rfl rfl rfl rfl).trans rfl), ?hytxs07⟩) (Below.refl _ _) ?resttxs07
              case hytxs07 =>
                intro W hW
                go_simp
                exact rfl
              simp only [List.getElem_toArray, List.getElem_cons_succ, List.getElem_cons_zero, Act.put, List.setIfInBounds_toArray, List.set_cons_zero, List.set_cons_succ]
              refine but_take (f := 17) (i := 8) (v := ?vtxs08) rfl (by kernel_rfl) (by kernel_rfl) (by kernel_rfl) (by kernel_rfl) (by kernel_rfl) (fun _ _ _ h => h) (Or.inl ⟨((wanted_at rfl rfl rfl rfl).trans rfl), ?hytxs08⟩) (Below.refl _ _) ?resttxs08
              case hytxs08 =>
                intro W hW
                go_simp
                exact rfl
              simp only [List.getElem_toArray, List.getElem_cons_succ, List.getElem_cons_zero, Act.put, List.setIfInBounds_toArray, List.set_cons_zero, List.set_cons_succ]
              refine but_take (f := 17) (i := 9) (v := ?vtxs09) rfl (by kernel_rfl) (by kernel_rfl) (by kernel_rfl) (by kernel_rfl) (by kernel_rfl) (fun _ _ _ h => h) (Or.inl ⟨((wanted_at rfl rfl rfl rfl).trans rfl), ?hytxs09⟩) (Below.refl _ _) ?resttxs09
              case hytxs09 =>
                intro W hW
                go_simp
                exact rfl
              simp only [List.getElem_toArray, List.getElem_cons_succ, List.getElem_cons_zero, Act.put, List.setIfInBounds_toArray, List.set_cons_zero, List.set_cons_succ]
              refine but_take (f := 17) (i := 10) (v := ?vtxs010) rfl (by kernel_rfl) (by kernel_rfl) (by kernel_rfl) (by kernel_rfl) (by kernel_rfl) (fun _ _ _ h => h) (Or.inl ⟨((wanted_at rfl rfl rfl rfl).trans rfl), ?hytxs010⟩) (Below.refl _ _) ?resttxs010
              case hytxs010 =>
                intro W hW
                go_simp
                exact rfl
              simp only [List.getElem_toArray, List.getElem_cons_succ, List.getElem_cons_zero, Act.put, List.setIfInBounds_toArray, List.set_cons_zero, List.set_cons_succ]
              refine but_take (f := 17) (i := 11) (v := ?vtxs011) rfl (by kernel_rfl) (by kernel_rfl) (by kernel_rfl) (by kernel_rfl) (by kernel_rfl) (fun _ _ _ h => h) (Or.inl ⟨((wanted_at rfl rfl rfl rfl).trans rfl), ?hytxs011⟩) (Below.refl _ _) ?resttxs011
              case hytxs011 =>
                intro W hW
                go_simp
                exact rfl
              simp only [List.getElem_toArray, List.getElem_cons_succ, List.getElem_cons_zero, Act.put, List.setIfInBounds_toArray, List.set_cons_zero, List.set_cons_succ]
              refine but_take (f := 17) (i := 12) (v := ?vtxs012) rfl (by kernel_rfl) (by kernel_rfl) (by kernel_rfl) (by kernel_rfl) (by kernel_rfl) (fun _ _ _ h => h) (Or.inl ⟨((wanted_at rfl rfl rfl rfl).trans rfl), ?hytxs012⟩) (Below.refl _ _) ?resttxs012
              case hytxs012 =>
                intro W hW
                go_simp
                exact rfl
              simp only [List.getElem_toArray, List.getElem_cons_succ, List.getElem_cons_zero, Act.put, List.setIfInBounds_toArray, List.set_cons_zero, List.set_cons_succ]
              refine but_take (f := 17) (i := 13) (v := ?vtxs013) rfl (by kernel_rfl) (by kernel_rfl) (by kernel_rfl) (by kernel_rfl) (by kernel_rfl) (fun _ _ _ h => h) (Or.inl ⟨((wanted_at rfl rfl rfl rfl).trans rfl), ?hytxs013⟩) (Below.refl _ _) ?resttxs013
              case hytxs013 =>
                intro W hW
                go_simp
                exact rfl
              simp only [List.getElem_toArray, List.getElem_cons_succ, List.getElem_cons_zero, Act.put, List.setIfInBounds_toArray, List.set_cons_zero, List.set_cons_succ]
              refine but_take (f := 17) (i := 14) (v := ?vtxs014) rfl (by kernel_rfl) (by kernel_rfl) (by kernel_rfl) (by kernel_rfl) (by kernel_rfl) (fun _ _ _ h => h) (Or.inl ⟨((wanted_at rfl rfl rfl rfl).trans rfl), ?hytxs014⟩) (Below.refl _ _) ?resttxs014
              case hytxs014 =>
                intro W hW
                have hb0 : Below wv.heap.size wv W := bstep (Below.drew1 _) hW
                obtain ⟨y0, y1⟩ := FK.out.on hbb (bstep BV.out hb0)
                go_simp
                exact rfl
              simp only [List.getElem_toArray, List.getElem_cons_succ, List.getElem_cons_zero, Act.put, List.setIfInBounds_toArray, List.set_cons_zero, List.set_cons_succ]
              refine but_run (i := 15) (by kernel_rfl) rfl ((wanted_at rfl rfl rfl rfl).trans rfl) ?_
              simp only [List.getElem_toArray, List.getElem_cons_succ, List.getElem_cons_zero]
              intro K HK
              go_wp2_with fail
              refine (specAgeAtB _ (l.take k) (l[k]).b _ (HTK.out.on (bstep BV.out (bstep (Below.drew1 _) (Below.refl _ _)))) (by simp; omega)).mono ?_
              rintro r Vtxs01 ⟨rfl, hBtxs01⟩
              have hStxs01 := bstep (Below.refl _ _) hBtxs01
              go_wp2_with fail
              refine HK.out _ Vtxs01 (fun _ => hStxs01) ?_
              clear HK
              refine but_take (f := 17) (i := 16) (v := ?vtxs016) rfl (by kernel_rfl) (by kernel_rfl) (by kernel_rfl) (by kernel_rfl) (by kernel_rfl) (fun _ _ _ h => h) (Or.inl ⟨((wanted_at rfl rfl rfl rfl).trans rfl), ?hytxs016⟩) hStxs01 ?resttxs016
              case hytxs016 =>
                intro W hW
                go_simp
                exact rfl
              simp only [List.getElem_toArray, List.getElem_cons_succ, List.getElem_cons_zero, Act.put, List.setIfInBounds_toArray, List.set_cons_zero, List.set_cons_succ]
              refine but_run (i := 17) (by kernel_rfl) rfl (by rfl) ?_
              simp only [List.getElem_toArray, List.getElem_cons_succ, List.getElem_cons_zero]
              intro K HK
              go_wp2_with fail
              refine HK.out _ Vtxs01 (fun h => absurd rfl h) ?_
              clear HK
              refine but_done (by kernel_rfl) ?_
              go_wp2_with fail
              go_ret
              exact ⟨ret_boolB (by rw [← HR.out]; exact (fit_miss hlt HF.out).symm), bstep HW.out (bstep BV.out (bstep (Below.drew1 _) hStxs01))⟩
            · have HF : Hid (fitG l k = true) := Lib.hid (by rw [hfit, HID.out, parGB, q9, q2]; rfl)
              rw [q2] at hneg
              have q3 : decide (ageAtK (l.take k) (l[k]).b < 0) = false := hneg
              clear hneg q9 q2
              refine but_begin (f := 17) (S := fun V => Below wv.drew.heap.size wv.drew V) (by kernel_rfl) ?_
              refine but_take (f := 17) (i := 0) (v := ?vtys00) rfl (by kernel_rfl) (by kernel_rfl) (by kernel_rfl) (by kernel_rfl) (by kernel_rfl) (fun _ _ _ h => h) (Or.inl ⟨(by rfl), ?hytys00⟩) (Below.refl _ _) ?resttys00
              case hytys00 =>
                intro W hW
                go_simp
                exact rfl
              simp only [List.getElem_toArray, List.getElem_cons_succ, List.getElem_cons_zero, Act.put, List.setIfInBounds_toArray, List.set_cons_zero, List.set_cons_succ]
              refine but_take (f := 17) (i := 1) (v := ?vtys01) rfl (by kernel_rfl) (by kernel_rfl) (by kernel_rfl) (by kernel_rfl) (by kernel_rfl) (fun _ _ _ h => h) (Or.inl ⟨(by rfl), ?hytys01⟩) (Below.refl _ _) ?resttys01
              case hytys01 =>
                intro W hW
                go_simp
                exact rfl
              simp only [List.getElem_toArray, List.getElem_cons_succ, List.getElem_cons_zero, Act.put, List.setIfInBounds_toArray, List.set_cons_zero, List.set_cons_succ]
              refine but_take (f := 17) (i := 2) (v := ?vtys02) rfl (by kernel_rfl) (by kernel_rfl) (by kernel_rfl) (by kernel_rfl) (by kernel_rfl) (fun _ _ _ h => h) (Or.inl ⟨(by rfl), ?hytys02⟩) (Below.refl _ _) ?resttys02
              case hytys02 =>
                intro W hW
                go_simp
                exact rfl
              simp only [List.getElem_toArray, List.getElem_cons_succ, List.getElem_cons_zero, Act.put, List.setIfInBounds_toArray, List.set_cons_zero, List.set_cons_succ]
              refine but_take (f := 17) (i := 3) (v := ?vtys03) rfl (by kernel_rfl) (by kernel_rfl) (by kernel_rfl) (by kernel_rfl) (by kernel_rfl) (fun _ _ _ h => h) (Or.inl ⟨(by rfl), ?hytys03⟩) (Below.refl _ _) ?resttys03
              case hytys03 =>
                intro W hW
                go_simp
                exact rfl
              simp only [List.getElem_toArray, List.getElem_cons_succ, List.getElem_cons_zero, Act.put, List.setIfInBounds_toArray, List.set_cons_zero, List.set_cons_succ]
              refine but_take (f := 17) (i := 4) (v := ?vtys04) rfl (by kernel_rfl) (by kernel_rfl) (by kernel_rfl) (by kernel_rfl) (by kernel_rfl) (fun _ _ _ h => h) (Or.inl ⟨(by rfl), ?hytys04⟩) (Below.refl _ _) ?resttys04
              case hytys04 =>
                intro W hW
                have hb0 : Below wv.heap.size wv W := bstep (Below.drew1 _) hW
                obtain ⟨y0, y1⟩ := FK.out.on hbb (bstep BV.out hb0)
                go_simp
                exact rfl
              simp only [List.getElem_toArray, List.getElem_cons_succ, List.getElem_cons_zero, Act.put, List.setIfInBounds_toArray, List.set_cons_zero, List.set_cons_succ]
              refine but_take (f := 17) (i := 5) (v := ?vtys05) rfl (by kernel_rfl) (by kernel_rfl) (by kernel_rfl) (by kernel_rfl) (by kernel_rfl) (fun _ _ _ h => h) (Or.inl ⟨(by rfl), ?hytys05⟩) (Below.refl _ _) ?resttys05
              case hytys05 =>
                intro W hW
                go_simp
                exact rfl
              simp only [List.getElem_toArray, List.getElem_cons_succ, List.getElem_cons_zero, Act.put, List.setIfInBounds_toArray, List.set_cons_zero, List.set_cons_succ]
              refine but_take (f := 17) (i := 6) (v := ?vtys06) rfl (by kernel_rfl) (by kernel_rfl) (by kernel_rfl) (by kernel_rfl) (by kernel_rfl) (fun _ _ _ h => h) (Or.inl ⟨(by rfl), ?hytys06⟩) (Below.refl _ _) ?resttys06
              case hytys06 =>
                intro W hW
                go_simp
                exact rfl
              simp only [List.getElem_toArray, List.getElem_cons_succ, List.getElem_cons_zero, Act.put, List.setIfInBounds_toArray, List.set_cons_zero, List.set_cons_succ]
              refine but_take (f := 17) (i := 7) (v := ?vtys07) rfl (by kernel_rfl) (by kernel_rfl) (by kernel_rfl) (by kernel_rfl) (by kernel_rfl) (fun _ _ _ h => h) (Or.inl ⟨((wanted_at rfl rfl rfl rfl).trans rfl), ?hytys07⟩) (Below.refl _ _) ?resttys07
              case hytys07 =>
                intro W hW
                go_simp
                exact rfl
              simp only [List.getElem_toArray, List.getElem_cons_succ, List.getElem_cons_zero, Act.put, List.setIfInBounds_toArray, List.set_cons_zero, List.set_cons_succ]
              refine but_take (f := 17) (i := 8) (v := ?vtys08) rfl (by kernel_rfl) (by kernel_rfl) (by kernel_rfl) (by kernel_rfl) (by kernel_rfl) (fun _ _ _ h => h) (Or.inl ⟨((wanted_at rfl rfl rfl rfl).trans rfl), ?hytys08⟩) (Below.refl _ _) ?resttys08
              case hytys08 =>
                intro W hW
                go_simp
                exact rfl
              simp only [List.getElem_toArray, List.getElem_cons_succ, List.getElem_cons_zero, Act.put, List.setIfInBounds_toArray, List.set_cons_zero, List.set_cons_succ]
              refine but_take (f := 17) (i := 9) (v := ?vtys09) rfl (by kernel_rfl) (by kernel_rfl) (by kernel_rfl) (by kernel_rfl) (by kernel_rfl) (fun _ _ _ h => h) (Or.inl ⟨((wanted_at rfl rfl rfl rfl).trans rfl), ?hytys09⟩) (Below.refl _ _) ?resttys09
              case hytys09 =>
                intro W hW
                go_simp
                exact rfl
              simp only [List.getElem_toArray, List.getElem_cons_succ, List.getElem_cons_zero, Act.put, List.setIfInBounds_toArray, List.set_cons_zero, List.set_cons_succ]
              refine but_take (f := 17) (i := 10) (v := ?vtys010) rfl (by kernel_rfl) (by kernel_rfl) (by kernel_rfl) (by kernel_rfl) (by kernel_rfl) (fun _ _ _ h => h) (Or.inl ⟨((wanted_at rfl rfl rfl rfl).trans rfl), ?hytys010⟩) (Below.refl _ _) ?resttys010
              case hytys010 =>
                intro W hW
                go_simp
                exact rfl
              simp only [List.getElem_toArray, List.getElem_cons_succ, List.getElem_cons_zero, Act.put, List.setIfInBounds_toArray, List.set_cons_zero, List.set_cons_succ]
              refine but_take (f := 17) (i := 11) (v := ?vtys011) rfl (by kernel_rfl) (by kernel_rfl) (by kernel_rfl) (by kernel_rfl) (by kernel_rfl) (fun _ _ _ h => h) (Or.inl ⟨((wanted_at rfl rfl rfl rfl).trans rfl), ?hytys011⟩) (Below.refl _ _) ?resttys011
              case hytys011 =>
                intro W hW
                go_simp
                exact rfl
              simp only [List.getElem_toArray, List.getElem_cons_succ, List.getElem_cons_zero, Act.put, List.setIfInBounds_toArray, List.set_cons_zero, List.set_cons_succ]
              refine but_take (f := 17) (i := 12) (v := ?vtys012) rfl (by kernel_rfl) (by kernel_rfl) (by kernel_rfl) (by kernel_rfl) (by kernel_rfl) (fun _ _ _ h => h) (Or.inl ⟨((wanted_at rfl rfl rfl rfl).trans rfl), ?hytys012⟩) (Below.refl _ _) ?resttys012
              case hytys012 =>
                intro W hW
                go_simp
                exact rfl
              simp only [List.getElem_toArray, List.getElem_cons_succ, List.getElem_cons_zero, Act.put, List.setIfInBounds_toArray, List.set_cons_zero, List.set_cons_succ]
              refine but_take (f := 17) (i := 13) (v := ?vtys013) rfl (by kernel_rfl) (by kernel_rfl) (by kernel_rfl) (by kernel_rfl) (by kernel_rfl) (fun _ _ _ h => h) (Or.inl ⟨((wanted_at rfl rfl rfl rfl).trans rfl), ?hytys013⟩) (Below.refl _ _) ?resttys013
              case hytys013 =>
                intro W hW
                go_simp
                exact rfl
              simp only [List.getElem_toArray, List.getElem_cons_succ, List.getElem_cons_zero, Act.put, List.setIfInBounds_toArray, List.set_cons_zero, List.set_cons_succ]
              refine but_take (f := 17) (i := 14) (v := ?vtys014) rfl (by kernel_rfl) (by kernel_rfl) (by kernel_rfl) (by kernel_rfl) (by kernel_rfl) (fun _ _ _ h => h) (Or.inl ⟨((wanted_at rfl rfl rfl rfl).trans rfl), ?hytys014⟩) (Below.refl _ _) ?resttys014
              case hytys014 =>
                intro W hW
                have hb0 : Below wv.heap.size wv W := bstep (Below.drew1 _) hW
                obtain ⟨y0, y1⟩ := FK.out.on hbb (bstep BV.out hb0)
                go_simp
                exact rfl
              simp only [List.getElem_toArray, List.getElem_cons_succ, List.getElem_cons_zero, Act.put, List.setIfInBounds_toArray, List.set_cons_zero, List.set_cons_succ]
              refine but_run (i := 15) (by kernel_rfl) rfl ((wanted_at rfl rfl rfl rfl).trans rfl) ?_
              simp only [List.getElem_toArray, List.getElem_cons_succ, List.getElem_cons_zero]
              intro K HK
              go_wp2_with fail
              refine (specAgeAtB _ (l.take k) (l[k]).b _ (HTK.out.on (bstep BV.out (bstep (Below.drew1 _) (Below.refl _ _)))) (by simp; omega)).mono ?_
              rintro r Vtys01 ⟨rfl, hBtys01⟩
              have hStys01 := bstep (Below.refl _ _) hBtys01
              go_wp2_with fail
              refine HK.out _ Vtys01 (fun _ => hStys01) ?_
              clear HK
              refine but_take (f := 17) (i := 16) (v := ?vtys016) rfl (by kernel_rfl) (by kernel_rfl) (by kernel_rfl) (by kernel_rfl) (by kernel_rfl) (fun _ _ _ h => h) (Or.inl ⟨((wanted_at rfl rfl rfl rfl).trans rfl), ?hytys016⟩) hStys01 ?resttys016
              case hytys016 =>
                intro W hW
                go_simp
                exact rfl
              simp only [List.getElem_toArray, List.getElem_cons_succ, List.getElem_cons_zero, Act.put, List.setIfInBounds_toArray, List.set_cons_zero, List.set_cons_succ]
              refine but_run (i := 17) (by kernel_rfl) rfl (by rfl) ?_
              simp only [List.getElem_toArray, List.getElem_cons_succ, List.getElem_cons_zero]
              intro K HK
              go_wp2_with fail
              refine HK.out _ Vtys01 (fun h => absurd rfl h) ?_
              clear HK
              refine but_done (by kernel_rfl) ?_
              go_wp2_with fail
              go_roundw
              case rel => exact ⟨k + 1, by omega, by go_num, Lib.hid (fit_step HI.out HF.out), HJ2, Lib.hid (bstep HW.out (bstep BV.out (bstep (Below.drew1 _) hStys01)))⟩
              case measure => simp [intOf]; omega
        · have z0 : decide (0 < k) = true := decide_eq_true (by omega)
          obtain ⟨j, hj⟩ : ∃ j, j + 1 = k := ⟨k - 1, by omega⟩
          have hjl : j < l.length := by omega
          have j1 : (j : Int) < (l.length : Int) := by omega
          have j2 : (0 : Int) ≤ (j : Int) := by omega
          have j3 : IntKind.i64.wrap ((k : Int) - 1) = (j : Int) := by rw [IntKind.wrap_i64]; omega
          have j4 : IntKind.i64.wrap (j : Int) = (j : Int) := by rw [IntKind.wrap_i64]; omega
          have FJ := Lib.hid (hc j hjl)
          by_cases p : (l[k]).a ≤ (l[j]).a
          · have z1 : decide ((l[k]).a ≤ (l[j]).a) = true := decide_eq_true p
            have HBAD : Hid (agesOkB l = false) := Lib.hid (rise_miss (j := j) (by omega) (by subst hj; omega))
            clear hc hfit hid hk0 hj p
            go_upto_region 4 with (fail)
            refine but_begin (f := 24) (S := fun V => Below wr.drew.heap.size wr.drew V) (by kernel_rfl) ?_
            refine but_take (f := 24) (i := 0) (v := ?vsx0) rfl (by kernel_rfl) (by kernel_rfl) (by kernel_rfl) (by kernel_rfl) (by kernel_rfl) (fun _ _ _ h => h) (Or.inl ⟨(by rfl), ?hysx0⟩) (Below.refl _ _) ?restsx0
            case hysx0 =>
              intro W hW
              go_simp
              exact rfl
            simp only [List.getElem_toArray, List.getElem_cons_succ, List.getElem_cons_zero, Act.put, List.setIfInBounds_toArray, List.set_cons_zero, List.set_cons_succ]
            refine but_take (f := 24) (i := 1) (v := ?vsx1) rfl (by kernel_rfl) (by kernel_rfl) (by kernel_rfl) (by kernel_rfl) (by kernel_rfl) (fun _ _ _ h => h) (Or.inl ⟨(by rfl), ?hysx1⟩) (Below.refl _ _) ?restsx1
            case hysx1 =>
              intro W hW
              go_simp
              exact rfl
            simp only [List.getElem_toArray, List.getElem_cons_succ, List.getElem_cons_zero, Act.put, List.setIfInBounds_toArray, List.set_cons_zero, List.set_cons_succ]
            refine but_take (f := 24) (i := 2) (v := ?vsx2) rfl (by kernel_rfl) (by kernel_rfl) (by kernel_rfl) (by kernel_rfl) (by kernel_rfl) (fun _ _ _ h => h) (Or.inl ⟨(by rfl), ?hysx2⟩) (Below.refl _ _) ?restsx2
            case hysx2 =>
              intro W hW
              go_simp
              exact rfl
            simp only [List.getElem_toArray, List.getElem_cons_succ, List.getElem_cons_zero, Act.put, List.setIfInBounds_toArray, List.set_cons_zero, List.set_cons_succ]
            refine but_take (f := 24) (i := 3) (v := ?vsx3) rfl (by kernel_rfl) (by kernel_rfl) (by kernel_rfl) (by kernel_rfl) (by kernel_rfl) (fun _ _ _ h => h) (Or.inl ⟨(by rfl), ?hysx3⟩) (Below.refl _ _) ?restsx3
            case hysx3 =>
              intro W hW
              go_simp
              exact rfl
            simp only [List.getElem_toArray, List.getElem_cons_succ, List.getElem_cons_zero, Act.put, List.setIfInBounds_toArray, List.set_cons_zero, List.set_cons_succ]
            refine but_take (f := 24) (i := 4) (v := ?vsx4) rfl (by kernel_rfl) (by kernel_rfl) (by kernel_rfl) (by kernel_rfl) (by kernel_rfl) (fun _ _ _ h => h) (Or.inl ⟨(by rfl), ?hysx4⟩) (Below.refl _ _) ?restsx4
            case hysx4 =>
              intro W hW
              have hb0 : Below wr.heap.size wr W := bstep (Below.drew1 _) hW
              obtain ⟨y0, y1⟩ := FK.out.on hbb hb0
              obtain ⟨z0, z1⟩ := FJ.out.on hbb hb0
              go_simp
              exact rfl
            simp only [List.getElem_toArray, List.getElem_cons_succ, List.getElem_cons_zero, Act.put, List.setIfInBounds_toArray, List.set_cons_zero, List.set_cons_succ]
            refine but_run (i := 5) (by kernel_rfl) rfl (by rfl) ?_
            simp only [List.getElem_toArray, List.getElem_cons_succ, List.getElem_cons_zero]
            intro K HK
            go_wp2_with fail
            refine (inG_any (l[k]).a _).mono ?_
            rintro r Vsx1 ⟨rfl, hBsx1⟩
            rw [HID.out]
            have hSsx1 := bstep (Below.refl _ _) hBsx1
            go_wp2_with fail
            refine HK.out _ Vsx1 (fun _ => hSsx1) ?_
            clear HK
            refine but_take (f := 24) (i := 6) (v := ?vsx6) rfl (by kernel_rfl) (by kernel_rfl) (by kernel_rfl) (by kernel_rfl) (by kernel_rfl) (fun _ _ _ h => h) (Or.inl ⟨(by rfl), ?hysx6⟩) hSsx1 ?restsx6
            case hysx6 =>
              intro W hW
              go_simp
              exact rfl
            simp only [List.getElem_toArray, List.getElem_cons_succ, List.getElem_cons_zero, Act.put, List.setIfInBounds_toArray, List.set_cons_zero, List.set_cons_succ]
            refine but_take (f := 24) (i := 7) (v := ?vsx7) rfl (by kernel_rfl) (by kernel_rfl) (by kernel_rfl) (by kernel_rfl) (by kernel_rfl) (fun _ _ _ h => h) (Or.inl ⟨(by rfl), ?hysx7⟩) hSsx1 ?restsx7
            case hysx7 =>
              intro W hW
              go_simp
              exact rfl
            simp only [List.getElem_toArray, List.getElem_cons_succ, List.getElem_cons_zero, Act.put, List.setIfInBounds_toArray, List.set_cons_zero, List.set_cons_succ]
            refine but_take (f := 24) (i := 8) (v := ?vsx8) rfl (by kernel_rfl) (by kernel_rfl) (by kernel_rfl) (by kernel_rfl) (by kernel_rfl) (fun _ _ _ h => h) (Or.inl ⟨((wanted_at rfl rfl rfl rfl).trans rfl), ?hysx8⟩) hSsx1 ?restsx8
            case hysx8 =>
              intro W hW
              go_simp
              exact rfl
            simp only [List.getElem_toArray, List.getElem_cons_succ, List.getElem_cons_zero, Act.put, List.setIfInBounds_toArray, List.set_cons_zero, List.set_cons_succ]
            refine but_take (f := 24) (i := 9) (v := ?vsx9) rfl (by kernel_rfl) (by kernel_rfl) (by kernel_rfl) (by kernel_rfl) (by kernel_rfl) (fun _ _ _ h => h) (Or.inl ⟨((wanted_at rfl rfl rfl rfl).trans rfl), ?hysx9⟩) hSsx1 ?restsx9
            case hysx9 =>
              intro W hW
              go_simp
              exact rfl
            simp only [List.getElem_toArray, List.getElem_cons_succ, List.getElem_cons_zero, Act.put, List.setIfInBounds_toArray, List.set_cons_zero, List.set_cons_succ]
            refine but_take (f := 24) (i := 10) (v := ?vsx10) rfl (by kernel_rfl) (by kernel_rfl) (by kernel_rfl) (by kernel_rfl) (by kernel_rfl) (fun _ _ _ h => h) (Or.inl ⟨((wanted_at rfl rfl rfl rfl).trans rfl), ?hysx10⟩) hSsx1 ?restsx10
            case hysx10 =>
              intro W hW
              go_simp
              exact rfl
            simp only [List.getElem_toArray, List.getElem_cons_succ, List.getElem_cons_zero, Act.put, List.setIfInBounds_toArray, List.set_cons_zero, List.set_cons_succ]
            refine but_take (f := 24) (i := 11) (v := ?vsx11) rfl (by kernel_rfl) (by kernel_rfl) (by kernel_rfl) (by kernel_rfl) (by kernel_rfl) (fun _ _ _ h => h) (Or.inl ⟨((wanted_at rfl rfl rfl rfl).trans rfl), ?hysx11⟩) hSsx1 ?restsx11
            case hysx11 =>
              intro W hW
              go_simp
              exact rfl
            simp only [List.getElem_toArray, List.getElem_cons_succ, List.getElem_cons_zero, Act.put, List.setIfInBounds_toArray, List.set_cons_zero, List.set_cons_succ]
            refine but_take (f := 24) (i := 12) (v := ?vsx12) rfl (by kernel_rfl) (by kernel_rfl) (by kernel_rfl) (by kernel_rfl) (by kernel_rfl) (fun _ _ _ h => h) (Or.inl ⟨((wanted_at rfl rfl rfl rfl).trans rfl), ?hysx12⟩) hSsx1 ?restsx12
            case hysx12 =>
              intro W hW
              go_simp
              exact rfl
            simp only [List.getElem_toArray, List.getElem_cons_succ, List.getElem_cons_zero, Act.put, List.setIfInBounds_toArray, List.set_cons_zero, List.set_cons_succ]
            refine but_take (f := 24) (i := 13) (v := ?vsx13) rfl (by kernel_rfl) (by kernel_rfl) (by kernel_rfl) (by kernel_rfl) (by kernel_rfl) (fun _ _ _ h => h) (Or.inl ⟨((wanted_at rfl rfl rfl rfl).trans rfl), ?hysx13⟩) hSsx1 ?restsx13
            case hysx13 =>
              intro W hW
              go_simp
              exact rfl
            simp only [List.getElem_toArray, List.getElem_cons_succ, List.getElem_cons_zero, Act.put, List.setIfInBounds_toArray, List.set_cons_zero, List.set_cons_succ]
            refine but_take (f := 24) (i := 14) (v := ?vsx14) rfl (by kernel_rfl) (by kernel_rfl) (by kernel_rfl) (by kernel_rfl) (by kernel_rfl) (fun _ _ _ h => h) (Or.inl ⟨((wanted_at rfl rfl rfl rfl).trans rfl), ?hysx14⟩) hSsx1 ?restsx14
            case hysx14 =>
              intro W hW
              go_simp
              exact rfl
            simp only [List.getElem_toArray, List.getElem_cons_succ, List.getElem_cons_zero, Act.put, List.setIfInBounds_toArray, List.set_cons_zero, List.set_cons_succ]
            refine but_take (f := 24) (i := 15) (v := ?vsx15) rfl (by kernel_rfl) (by kernel_rfl) (by kernel_rfl) (by kernel_rfl) (by kernel_rfl) (fun _ _ _ h => h) (Or.inl ⟨((wanted_at rfl rfl rfl rfl).trans rfl), ?hysx15⟩) hSsx1 ?restsx15
            case hysx15 =>
              intro W hW
              go_simp
              exact rfl
            simp only [List.getElem_toArray, List.getElem_cons_succ, List.getElem_cons_zero, Act.put, List.setIfInBounds_toArray, List.set_cons_zero, List.set_cons_succ]
            refine but_take (f := 24) (i := 16) (v := ?vsx16) rfl (by kernel_rfl) (by kernel_rfl) (by kernel_rfl) (by kernel_rfl) (by kernel_rfl) (fun _ _ _ h => h) (Or.inl ⟨((wanted_at rfl rfl rfl rfl).trans rfl), ?hysx16⟩) hSsx1 ?restsx16
            case hysx16 =>
              intro W hW
              have hb0 : Below wr.heap.size wr W := bstep (Below.drew1 _) hW
              obtain ⟨y0, y1⟩ := FK.out.on hbb hb0
              obtain ⟨z0, z1⟩ := FJ.out.on hbb hb0
              go_simp
              exact rfl
            simp only [List.getElem_toArray, List.getElem_cons_succ, List.getElem_cons_zero, Act.put, List.setIfInBounds_toArray, List.set_cons_zero, List.set_cons_succ]
            refine but_take (f := 24) (i := 17) (v := ?vsx17) rfl (by kernel_rfl) (by kernel_rfl) (by kernel_rfl) (by kernel_rfl) (by kernel_rfl) (fun _ _ _ h => h) (Or.inl ⟨((wanted_at rfl rfl rfl rfl).trans rfl), ?hysx17⟩) hSsx1 ?restsx17
            case hysx17 =>
              intro W hW
              go_simp
              exact rfl
            simp only [List.getElem_toArray, List.getElem_cons_succ, List.getElem_cons_zero, Act.put, List.setIfInBounds_toArray, List.set_cons_zero, List.set_cons_succ]
            refine but_take (f := 24) (i := 18) (v := ?vsx18) rfl (by kernel_rfl) (by kernel_rfl) (by kernel_rfl) (by kernel_rfl) (by kernel_rfl) (fun _ _ _ h => h) (Or.inl ⟨((wanted_at rfl rfl rfl rfl).trans rfl), ?hysx18⟩) hSsx1 ?restsx18
            case hysx18 =>
              intro W hW
              go_simp
              exact rfl
            simp only [List.getElem_toArray, List.getElem_cons_succ, List.getElem_cons_zero, Act.put, List.setIfInBounds_toArray, List.set_cons_zero, List.set_cons_succ]
            refine but_take (f := 24) (i := 19) (v := ?vsx19) rfl (by kernel_rfl) (by kernel_rfl) (by kernel_rfl) (by kernel_rfl) (by kernel_rfl) (fun _ _ _ h => h) (Or.inl ⟨((wanted_at rfl rfl rfl rfl).trans rfl), ?hysx19⟩) hSsx1 ?restsx19
            case hysx19 =>
              intro W hW
              go_simp
              exact rfl
            simp only [List.getElem_toArray, List.getElem_cons_succ, List.getElem_cons_zero, Act.put, List.setIfInBounds_toArray, List.set_cons_zero, List.set_cons_succ]
            refine but_take (f := 24) (i := 20) (v := ?vsx20) rfl (by kernel_rfl) (by kernel_rfl) (by kernel_rfl) (by kernel_rfl) (by kernel_rfl) (fun _ _ _ h => h) (Or.inl ⟨((wanted_at rfl rfl rfl rfl).trans rfl), ?hysx20⟩) hSsx1 ?restsx20
            case hysx20 =>
              intro W hW
              go_simp
              exact rfl
            simp only [List.getElem_toArray, List.getElem_cons_succ, List.getElem_cons_zero, Act.put, List.setIfInBounds_toArray, List.set_cons_zero, List.set_cons_succ]
            refine but_take (f := 24) (i := 21) (v := ?vsx21) rfl (by kernel_rfl) (by kernel_rfl) (by kernel_rfl) (by kernel_rfl) (by kernel_rfl) (fun _ _ _ h => h) (Or.inl ⟨((wanted_at rfl rfl rfl rfl).trans rfl), ?hysx21⟩) hSsx1 ?restsx21
            case hysx21 =>
              intro W hW
              have hb0 : Below wr.heap.size wr W := bstep (Below.drew1 _) hW
              obtain ⟨y0, y1⟩ := FK.out.on hbb hb0
              obtain ⟨z0, z1⟩ := FJ.out.on hbb hb0
              go_simp
              exact rfl
            simp only [List.getElem_toArray, List.getElem_cons_succ, List.getElem_cons_zero, Act.put, List.setIfInBounds_toArray, List.set_cons_zero, List.set_cons_succ]
            refine but_take (f := 24) (i := 22) (v := ?vsx22) rfl (by kernel_rfl) (by kernel_rfl) (by kernel_rfl) (by kernel_rfl) (by kernel_rfl) (fun _ _ _ h => h) (Or.inl ⟨((wanted_at rfl rfl rfl rfl).trans rfl), ?hysx22⟩) hSsx1 ?restsx22
            case hysx22 =>
              intro W hW
              go_simp
              exact rfl
            simp only [List.getElem_toArray, List.getElem_cons_succ, List.getElem_cons_zero, Act.put, List.setIfInBounds_toArray, List.set_cons_zero, List.set_cons_succ]
            refine but_take (f := 24) (i := 23) (v := ?vsx23) rfl (by kernel_rfl) (by kernel_rfl) (by kernel_rfl) (by kernel_rfl) (by kernel_rfl) (fun _ _ _ h => h) (Or.inl ⟨((wanted_at rfl rfl rfl rfl).trans rfl), ?hysx23⟩) hSsx1 ?restsx23
            case hysx23 =>
              intro W hW
              go_simp
              exact rfl
            simp only [List.getElem_toArray, List.getElem_cons_succ, List.getElem_cons_zero, Act.put, List.setIfInBounds_toArray, List.set_cons_zero, List.set_cons_succ]
            refine but_run (i := 24) (by kernel_rfl) rfl (by rfl) ?_
            simp only [List.getElem_toArray, List.getElem_cons_succ, List.getElem_cons_zero]
            intro K HK
            go_wp2_with fail
            refine HK.out _ Vsx1 (fun h => absurd rfl h) ?_
            clear HK
            refine but_done (by kernel_rfl) ?_
            go_wp2_with fail
            go_ret
            exact ⟨ret_boolB (by rw [← HR.out]; exact HBAD.out.symm), bstep HW.out (bstep (Below.drew1 _) hSsx1)⟩
          · have z1 : decide ((l[k]).a ≤ (l[j]).a) = false := decide_eq_false p
            have HJ2 : Hid (∀ j (h : j + 1 < l.length), j + 1 < k + 1 → (l[j]).a < (l[j + 1]).a) := Lib.hid (fun i h h2 => by
              by_cases h3 : i + 1 < k
              · exact HJ.out i h h3
              · have e1 : i = j := by omega
                subst e1
                subst hj
                omega)
            clear hc hid hk0 hj p
            go_upto_region 4 with (fail)
            refine but_begin (f := 24) (S := fun V => Below wr.drew.heap.size wr.drew V) (by kernel_rfl) ?_
            refine but_take (f := 24) (i := 0) (v := ?vsy0) rfl (by kernel_rfl) (by kernel_rfl) (by kernel_rfl) (by kernel_rfl) (by kernel_rfl) (fun _ _ _ h => h) (Or.inl ⟨(by rfl), ?hysy0⟩) (Below.refl _ _) ?restsy0
            case hysy0 =>
              intro W hW
              go_simp
              exact rfl
            simp only [List.getElem_toArray, List.getElem_cons_succ, List.getElem_cons_zero, Act.put, List.setIfInBounds_toArray, List.set_cons_zero, List.set_cons_succ]
            refine but_take (f := 24) (i := 1) (v := ?vsy1) rfl (by kernel_rfl) (by kernel_rfl) (by kernel_rfl) (by kernel_rfl) (by kernel_rfl) (fun _ _ _ h => h) (Or.inl ⟨(by rfl), ?hysy1⟩) (Below.refl _ _) ?restsy1
            case hysy1 =>
              intro W hW
              go_simp
              exact rfl
            simp only [List.getElem_toArray, List.getElem_cons_succ, List.getElem_cons_zero, Act.put, List.setIfInBounds_toArray, List.set_cons_zero, List.set_cons_succ]
            refine but_take (f := 24) (i := 2) (v := ?vsy2) rfl (by kernel_rfl) (by kernel_rfl) (by kernel_rfl) (by kernel_rfl) (by kernel_rfl) (fun _ _ _ h => h) (Or.inl ⟨(by rfl), ?hysy2⟩) (Below.refl _ _) ?restsy2
            case hysy2 =>
              intro W hW
              go_simp
              exact rfl
            simp only [List.getElem_toArray, List.getElem_cons_succ, List.getElem_cons_zero, Act.put, List.setIfInBounds_toArray, List.set_cons_zero, List.set_cons_succ]
            refine but_take (f := 24) (i := 3) (v := ?vsy3) rfl (by kernel_rfl) (by kernel_rfl) (by kernel_rfl) (by kernel_rfl) (by kernel_rfl) (fun _ _ _ h => h) (Or.inl ⟨(by rfl), ?hysy3⟩) (Below.refl _ _) ?restsy3
            case hysy3 =>
              intro W hW
              go_simp
              exact rfl
            simp only [List.getElem_toArray, List.getElem_cons_succ, List.getElem_cons_zero, Act.put, List.setIfInBounds_toArray, List.set_cons_zero, List.set_cons_succ]
            refine but_take (f := 24) (i := 4) (v := ?vsy4) rfl (by kernel_rfl) (by kernel_rfl) (by kernel_rfl) (by kernel_rfl) (by kernel_rfl) (fun _ _ _ h => h) (Or.inl ⟨(by rfl), ?hysy4⟩) (Below.refl _ _) ?restsy4
            case hysy4 =>
              intro W hW
              have hb0 : Below wr.heap.size wr W := bstep (Below.drew1 _) hW
              obtain ⟨y0, y1⟩ := FK.out.on hbb hb0
              obtain ⟨z0, z1⟩ := FJ.out.on hbb hb0
              go_simp
              exact rfl
            simp only [List.getElem_toArray, List.getElem_cons_succ, List.getElem_cons_zero, Act.put, List.setIfInBounds_toArray, List.set_cons_zero, List.set_cons_succ]
            refine but_run (i := 5) (by kernel_rfl) rfl (by rfl) ?_
            simp only [List.getElem_toArray, List.getElem_cons_succ, List.getElem_cons_zero]
            intro K HK
            go_wp2_with fail
            refine (inG_any (l[k]).a _).mono ?_
            rintro r Vsy1 ⟨rfl, hBsy1⟩
            rw [HID.out]
            have hSsy1 := bstep (Below.refl _ _) hBsy1
            go_wp2_with fail
            refine HK.out _ Vsy1 (fun _ => hSsy1) ?_
            clear HK
            refine but_take (f := 24) (i := 6) (v := ?vsy6) rfl (by kernel_rfl) (by kernel_rfl) (by kernel_rfl) (by kernel_rfl) (by kernel_rfl) (fun _ _ _ h => h) (Or.inl ⟨(by rfl), ?hysy6⟩) hSsy1 ?restsy6
            case hysy6 =>
              intro W hW
              go_simp
              exact rfl
            simp only [List.getElem_toArray, List.getElem_cons_succ, List.getElem_cons_zero, Act.put, List.setIfInBounds_toArray, List.set_cons_zero, List.set_cons_succ]
            refine but_take (f := 24) (i := 7) (v := ?vsy7) rfl (by kernel_rfl) (by kernel_rfl) (by kernel_rfl) (by kernel_rfl) (by kernel_rfl) (fun _ _ _ h => h) (Or.inl ⟨(by rfl), ?hysy7⟩) hSsy1 ?restsy7
            case hysy7 =>
              intro W hW
              go_simp
              exact rfl
            simp only [List.getElem_toArray, List.getElem_cons_succ, List.getElem_cons_zero, Act.put, List.setIfInBounds_toArray, List.set_cons_zero, List.set_cons_succ]
            refine but_take (f := 24) (i := 8) (v := ?vsy8) rfl (by kernel_rfl) (by kernel_rfl) (by kernel_rfl) (by kernel_rfl) (by kernel_rfl) (fun _ _ _ h => h) (Or.inl ⟨((wanted_at rfl rfl rfl rfl).trans rfl), ?hysy8⟩) hSsy1 ?restsy8
            case hysy8 =>
              intro W hW
              go_simp
              exact rfl
            simp only [List.getElem_toArray, List.getElem_cons_succ, List.getElem_cons_zero, Act.put, List.setIfInBounds_toArray, List.set_cons_zero, List.set_cons_succ]
            refine but_take (f := 24) (i := 9) (v := ?vsy9) rfl (by kernel_rfl) (by kernel_rfl) (by kernel_rfl) (by kernel_rfl) (by kernel_rfl) (fun _ _ _ h => h) (Or.inl ⟨((wanted_at rfl rfl rfl rfl).trans rfl), ?hysy9⟩) hSsy1 ?restsy9
            case hysy9 =>
              intro W hW
              go_simp
              exact rfl
            simp only [List.getElem_toArray, List.getElem_cons_succ, List.getElem_cons_zero, Act.put, List.setIfInBounds_toArray, List.set_cons_zero, List.set_cons_succ]
            refine but_take (f := 24) (i := 10) (v := ?vsy10) rfl (by kernel_rfl) (by kernel_rfl) (by kernel_rfl) (by kernel_rfl) (by kernel_rfl) (fun _ _ _ h => h) (Or.inl ⟨((wanted_at rfl rfl rfl rfl).trans rfl), ?hysy10⟩) hSsy1 ?restsy10
            case hysy10 =>
              intro W hW
              go_simp
              exact rfl
            simp only [List.getElem_toArray, List.getElem_cons_succ, List.getElem_cons_zero, Act.put, List.setIfInBounds_toArray, List.set_cons_zero, List.set_cons_succ]
            refine but_take (f := 24) (i := 11) (v := ?vsy11) rfl (by kernel_rfl) (by kernel_rfl) (by kernel_rfl) (by kernel_rfl) (by kernel_rfl) (fun _ _ _ h => h) (Or.inl ⟨((wanted_at rfl rfl rfl rfl).trans rfl), ?hysy11⟩) hSsy1 ?restsy11
            case hysy11 =>
              intro W hW
              go_simp
              exact rfl
            simp only [List.getElem_toArray, List.getElem_cons_succ, List.getElem_cons_zero, Act.put, List.setIfInBounds_toArray, List.set_cons_zero, List.set_cons_succ]
            refine but_take (f := 24) (i := 12) (v := ?vsy12) rfl (by kernel_rfl) (by kernel_rfl) (by kernel_rfl) (by kernel_rfl) (by kernel_rfl) (fun _ _ _ h => h) (Or.inl ⟨((wanted_at rfl rfl rfl rfl).trans rfl), ?hysy12⟩) hSsy1 ?restsy12
            case hysy12 =>
              intro W hW
              go_simp
              exact rfl
            simp only [List.getElem_toArray, List.getElem_cons_succ, List.getElem_cons_zero, Act.put, List.setIfInBounds_toArray, List.set_cons_zero, List.set_cons_succ]
            refine but_take (f := 24) (i := 13) (v := ?vsy13) rfl (by kernel_rfl) (by kernel_rfl) (by kernel_rfl) (by kernel_rfl) (by kernel_rfl) (fun _ _ _ h => h) (Or.inl ⟨((wanted_at rfl rfl rfl rfl).trans rfl), ?hysy13⟩) hSsy1 ?restsy13
            case hysy13 =>
              intro W hW
              go_simp
              exact rfl
            simp only [List.getElem_toArray, List.getElem_cons_succ, List.getElem_cons_zero, Act.put, List.setIfInBounds_toArray, List.set_cons_zero, List.set_cons_succ]
            refine but_take (f := 24) (i := 14) (v := ?vsy14) rfl (by kernel_rfl) (by kernel_rfl) (by kernel_rfl) (by kernel_rfl) (by kernel_rfl) (fun _ _ _ h => h) (Or.inl ⟨((wanted_at rfl rfl rfl rfl).trans rfl), ?hysy14⟩) hSsy1 ?restsy14
            case hysy14 =>
              intro W hW
              go_simp
              exact rfl
            simp only [List.getElem_toArray, List.getElem_cons_succ, List.getElem_cons_zero, Act.put, List.setIfInBounds_toArray, List.set_cons_zero, List.set_cons_succ]
            refine but_take (f := 24) (i := 15) (v := ?vsy15) rfl (by kernel_rfl) (by kernel_rfl) (by kernel_rfl) (by kernel_rfl) (by kernel_rfl) (fun _ _ _ h => h) (Or.inl ⟨((wanted_at rfl rfl rfl rfl).trans rfl), ?hysy15⟩) hSsy1 ?restsy15
            case hysy15 =>
              intro W hW
              go_simp
              exact rfl
            simp only [List.getElem_toArray, List.getElem_cons_succ, List.getElem_cons_zero, Act.put, List.setIfInBounds_toArray, List.set_cons_zero, List.set_cons_succ]
            refine but_take (f := 24) (i := 16) (v := ?vsy16) rfl (by kernel_rfl) (by kernel_rfl) (by kernel_rfl) (by kernel_rfl) (by kernel_rfl) (fun _ _ _ h => h) (Or.inl ⟨((wanted_at rfl rfl rfl rfl).trans rfl), ?hysy16⟩) hSsy1 ?restsy16
            case hysy16 =>
              intro W hW
              have hb0 : Below wr.heap.size wr W := bstep (Below.drew1 _) hW
              obtain ⟨y0, y1⟩ := FK.out.on hbb hb0
              obtain ⟨z0, z1⟩ := FJ.out.on hbb hb0
              go_simp
              exact rfl
            simp only [List.getElem_toArray, List.getElem_cons_succ, List.getElem_cons_zero, Act.put, List.setIfInBounds_toArray, List.set_cons_zero, List.set_cons_succ]
            refine but_take (f := 24) (i := 17) (v := ?vsy17) rfl (by kernel_rfl) (by kernel_rfl) (by kernel_rfl) (by kernel_rfl) (by kernel_rfl) (fun _ _ _ h => h) (Or.inl ⟨((wanted_at rfl rfl rfl rfl).trans rfl), ?hysy17⟩) hSsy1 ?restsy17
            case hysy17 =>
              intro W hW
              go_simp
              exact rfl
            simp only [List.getElem_toArray, List.getElem_cons_succ, List.getElem_cons_zero, Act.put, List.setIfInBounds_toArray, List.set_cons_zero, List.set_cons_succ]
            refine but_take (f := 24) (i := 18) (v := ?vsy18) rfl (by kernel_rfl) (by kernel_rfl) (by kernel_rfl) (by kernel_rfl) (by kernel_rfl) (fun _ _ _ h => h) (Or.inl ⟨((wanted_at rfl rfl rfl rfl).trans rfl), ?hysy18⟩) hSsy1 ?restsy18
            case hysy18 =>
              intro W hW
              go_simp
              exact rfl
            simp only [List.getElem_toArray, List.getElem_cons_succ, List.getElem_cons_zero, Act.put, List.setIfInBounds_toArray, List.set_cons_zero, List.set_cons_succ]
            refine but_take (f := 24) (i := 19) (v := ?vsy19) rfl (by kernel_rfl) (by kernel_rfl) (by kernel_rfl) (by kernel_rfl) (by kernel_rfl) (fun _ _ _ h => h) (Or.inl ⟨((wanted_at rfl rfl rfl rfl).trans rfl), ?hysy19⟩) hSsy1 ?restsy19
            case hysy19 =>
              intro W hW
              go_simp
              exact rfl
            simp only [List.getElem_toArray, List.getElem_cons_succ, List.getElem_cons_zero, Act.put, List.setIfInBounds_toArray, List.set_cons_zero, List.set_cons_succ]
            refine but_take (f := 24) (i := 20) (v := ?vsy20) rfl (by kernel_rfl) (by kernel_rfl) (by kernel_rfl) (by kernel_rfl) (by kernel_rfl) (fun _ _ _ h => h) (Or.inl ⟨((wanted_at rfl rfl rfl rfl).trans rfl), ?hysy20⟩) hSsy1 ?restsy20
            case hysy20 =>
              intro W hW
              go_simp
              exact rfl
            simp only [List.getElem_toArray, List.getElem_cons_succ, List.getElem_cons_zero, Act.put, List.setIfInBounds_toArray, List.set_cons_zero, List.set_cons_succ]
            refine but_take (f := 24) (i := 21) (v := ?vsy21) rfl (by kernel_rfl) (by kernel_rfl) (by kernel_rfl) (by kernel_rfl) (by kernel_rfl) (fun _ _ _ h => h) (Or.inl ⟨((wanted_at rfl rfl rfl rfl).trans rfl), ?hysy21⟩) hSsy1 ?restsy21
            case hysy21 =>
              intro W hW
              have hb0 : Below wr.heap.size wr W := bstep (Below.drew1 _) hW
              obtain ⟨y0, y1⟩ := FK.out.on hbb hb0
              obtain ⟨z0, z1⟩ := FJ.out.on hbb hb0
              go_simp
              exact rfl
            simp only [List.getElem_toArray, List.getElem_cons_succ, List.getElem_cons_zero, Act.put, List.setIfInBounds_toArray, List.set_cons_zero, List.set_cons_succ]
            refine but_take (f := 24) (i := 22) (v := ?vsy22) rfl (by kernel_rfl) (by kernel_rfl) (by kernel_rfl) (by kernel_rfl) (by kernel_rfl) (fun _ _ _ h => h) (Or.inl ⟨((wanted_at rfl rfl rfl rfl).trans rfl), ?hysy22⟩) hSsy1 ?restsy22
            case hysy22 =>
              intro W hW
              go_simp
              exact rfl
            simp only [List.getElem_toArray, List.getElem_cons_succ, List.getElem_cons_zero, Act.put, List.setIfInBounds_toArray, List.set_cons_zero, List.set_cons_succ]
            refine but_take (f := 24) (i := 23) (v := ?vsy23) rfl (by kernel_rfl) (by kernel_rfl) (by kernel_rfl) (by kernel_rfl) (by kernel_rfl) (fun _ _ _ h => h) (Or.inl ⟨((wanted_at rfl rfl rfl rfl).trans rfl), ?hysy23⟩) hSsy1 ?restsy23
            case hysy23 =>
              intro W hW
              go_simp
              exact rfl
            simp only [List.getElem_toArray, List.getElem_cons_succ, List.getElem_cons_zero, Act.put, List.setIfInBounds_toArray, List.set_cons_zero, List.set_cons_succ]
            refine but_run (i := 24) (by kernel_rfl) rfl (by rfl) ?_
            simp only [List.getElem_toArray, List.getElem_cons_succ, List.getElem_cons_zero]
            intro K HK
            go_wp2_with fail
            refine HK.out _ Vsy1 (fun h => absurd rfl h) ?_
            clear HK
            refine but_done (by kernel_rfl) ?_
            have BV := Lib.hid (bstep (Below.drew1 _) hSsy1)
            go_upto_region 6 with (fail)
            obtain ⟨wv, hwv⟩ : ∃ wv, wv = Vsy1 := ⟨_, rfl⟩
            rw [← hwv] at BV ⊢
            clear hwv
            cases q0 : ((l[k]).b != 0)
            · have HF : Hid (fitG l k = true) := Lib.hid (by rw [hfit, HID.out, parGB, show ((l[k]).b == 0) = true by simpa using q0]; rfl)
              refine but_begin (f := 17) (S := fun V => Below wv.drew.heap.size wv.drew V) (by kernel_rfl) ?_
              refine but_take (f := 17) (i := 0) (v := ?vt0sy0) rfl (by kernel_rfl) (by kernel_rfl) (by kernel_rfl) (by kernel_rfl) (by kernel_rfl) (fun _ _ _ h => h) (Or.inl ⟨(by rfl), ?hyt0sy0⟩) (Below.refl _ _) ?restt0sy0
              case hyt0sy0 =>
                intro W hW
                go_simp
                exact rfl
              simp only [List.getElem_toArray, List.getElem_cons_succ, List.getElem_cons_zero, Act.put, List.setIfInBounds_toArray, List.set_cons_zero, List.set_cons_succ]
              refine but_take (f := 17) (i := 1) (v := ?vt0sy1) rfl (by kernel_rfl) (by kernel_rfl) (by kernel_rfl) (by kernel_rfl) (by kernel_rfl) (fun _ _ _ h => h) (Or.inl ⟨(by rfl), ?hyt0sy1⟩) (Below.refl _ _) ?restt0sy1
              case hyt0sy1 =>
                intro W hW
                go_simp
                exact rfl
              simp only [List.getElem_toArray, List.getElem_cons_succ, List.getElem_cons_zero, Act.put, List.setIfInBounds_toArray, List.set_cons_zero, List.set_cons_succ]
              refine but_take (f := 17) (i := 2) (v := ?vt0sy2) rfl (by kernel_rfl) (by kernel_rfl) (by kernel_rfl) (by kernel_rfl) (by kernel_rfl) (fun _ _ _ h => h) (Or.inl ⟨(by rfl), ?hyt0sy2⟩) (Below.refl _ _) ?restt0sy2
              case hyt0sy2 =>
                intro W hW
                go_simp
                exact rfl
              simp only [List.getElem_toArray, List.getElem_cons_succ, List.getElem_cons_zero, Act.put, List.setIfInBounds_toArray, List.set_cons_zero, List.set_cons_succ]
              refine but_take (f := 17) (i := 3) (v := ?vt0sy3) rfl (by kernel_rfl) (by kernel_rfl) (by kernel_rfl) (by kernel_rfl) (by kernel_rfl) (fun _ _ _ h => h) (Or.inl ⟨(by rfl), ?hyt0sy3⟩) (Below.refl _ _) ?restt0sy3
              case hyt0sy3 =>
                intro W hW
                go_simp
                exact rfl
              simp only [List.getElem_toArray, List.getElem_cons_succ, List.getElem_cons_zero, Act.put, List.setIfInBounds_toArray, List.set_cons_zero, List.set_cons_succ]
              refine but_take (f := 17) (i := 4) (v := ?vt0sy4) rfl (by kernel_rfl) (by kernel_rfl) (by kernel_rfl) (by kernel_rfl) (by kernel_rfl) (fun _ _ _ h => h) (Or.inl ⟨(by rfl), ?hyt0sy4⟩) (Below.refl _ _) ?restt0sy4
              case hyt0sy4 =>
                intro W hW
                have hb0 : Below wv.heap.size wv W := bstep (Below.drew1 _) hW
                obtain ⟨y0, y1⟩ := FK.out.on hbb (bstep BV.out hb0)
                go_simp
                exact rfl
              simp only [List.getElem_toArray, List.getElem_cons_succ, List.getElem_cons_zero, Act.put, List.setIfInBounds_toArray, List.set_cons_zero, List.set_cons_succ]
              refine but_take (f := 17) (i := 5) (v := ?vt0sy5) rfl (by kernel_rfl) (by kernel_rfl) (by kernel_rfl) (by kernel_rfl) (by kernel_rfl) (fun _ _ _ h => h) (Or.inl ⟨(by rfl), ?hyt0sy5⟩) (Below.refl _ _) ?restt0sy5
              case hyt0sy5 =>
                intro W hW
                go_simp
                exact rfl
              simp only [List.getElem_toArray, List.getElem_cons_succ, List.getElem_cons_zero, Act.put, List.setIfInBounds_toArray, List.set_cons_zero, List.set_cons_succ]
              refine but_take (f := 17) (i := 6) (v := ?vt0sy6) rfl (by kernel_rfl) (by kernel_rfl) (by kernel_rfl) (by kernel_rfl) (by kernel_rfl) (fun _ _ _ h => h) (Or.inl ⟨(by rfl), ?hyt0sy6⟩) (Below.refl _ _) ?restt0sy6
              case hyt0sy6 =>
                intro W hW
                go_simp
                exact rfl
              simp only [List.getElem_toArray, List.getElem_cons_succ, List.getElem_cons_zero, Act.put, List.setIfInBounds_toArray, List.set_cons_zero, List.set_cons_succ]
              refine but_take (f := 17) (i := 7) (v := undef) rfl (by kernel_rfl) (by kernel_rfl) (by kernel_rfl) (by kernel_rfl) (by kernel_rfl) (fun _ _ _ h => h) (Or.inr ⟨((wanted_at rfl rfl rfl rfl).trans rfl), rfl⟩) (Below.refl _ _) ?_
              simp only [List.getElem_toArray, List.getElem_cons_succ, List.getElem_cons_zero, Act.put, List.setIfInBounds_toArray, List.set_cons_zero, List.set_cons_succ]
              refine but_take (f := 17) (i := 8) (v := undef) rfl (by kernel_rfl) (by kernel_rfl) (by kernel_rfl) (by kernel_rfl) (by kernel_rfl) (fun _ _ _ h => h) (Or.inr ⟨((wanted_at rfl rfl rfl rfl).trans rfl), rfl⟩) (Below.refl _ _) ?_
              simp only [List.getElem_toArray, List.getElem_cons_succ, List.getElem_cons_zero, Act.put, List.setIfInBounds_toArray, List.set_cons_zero, List.set_cons_succ]
              refine but_take (f := 17) (i := 9) (v := undef) rfl (by kernel_rfl) (by kernel_rfl) (by kernel_rfl) (by kernel_rfl) (by kernel_rfl) (fun _ _ _ h => h) (Or.inr ⟨((wanted_at rfl rfl rfl rfl).trans rfl), rfl⟩) (Below.refl _ _) ?_
              simp only [List.getElem_toArray, List.getElem_cons_succ, List.getElem_cons_zero, Act.put, List.setIfInBounds_toArray, List.set_cons_zero, List.set_cons_succ]
              refine but_take (f := 17) (i := 10) (v := undef) rfl (by kernel_rfl) (by kernel_rfl) (by kernel_rfl) (by kernel_rfl) (by kernel_rfl) (fun _ _ _ h => h) (Or.inr ⟨((wanted_at rfl rfl rfl rfl).trans rfl), rfl⟩) (Below.refl _ _) ?_
              simp only [List.getElem_toArray, List.getElem_cons_succ, List.getElem_cons_zero, Act.put, List.setIfInBounds_toArray, List.set_cons_zero, List.set_cons_succ]
              refine but_take (f := 17) (i := 11) (v := undef) rfl (by kernel_rfl) (by kernel_rfl) (by kernel_rfl) (by kernel_rfl) (by kernel_rfl) (fun _ _ _ h => h) (Or.inr ⟨((wanted_at rfl rfl rfl rfl).trans rfl), rfl⟩) (Below.refl _ _) ?_
              simp only [List.getElem_toArray, List.getElem_cons_succ, List.getElem_cons_zero, Act.put, List.setIfInBounds_toArray, List.set_cons_zero, List.set_cons_succ]
              refine but_take (f := 17) (i := 12) (v := undef) rfl (by kernel_rfl) (by kernel_rfl) (by kernel_rfl) (by kernel_rfl) (by kernel_rfl) (fun _ _ _ h => h) (Or.inr ⟨((wanted_at rfl rfl rfl rfl).trans rfl), rfl⟩) (Below.refl _ _) ?_
              simp only [List.getElem_toArray, List.getElem_cons_succ, List.getElem_cons_zero, Act.put, List.setIfInBounds_toArray, List.set_cons_zero, List.set_cons_succ]
              refine but_take (f := 17) (i := 13) (v := undef) rfl (by kernel_rfl) (by kernel_rfl) (by kernel_rfl) (by kernel_rfl) (by kernel_rfl) (fun _ _ _ h => h) (Or.inr ⟨((wanted_at rfl rfl rfl rfl).trans rfl), rfl⟩) (Below.refl _ _) ?_
              simp only [List.getElem_toArray, List.getElem_cons_succ, List.getElem_cons_zero, Act.put, List.setIfInBounds_toArray, List.set_cons_zero, List.set_cons_succ]
              refine but_take (f := 17) (i := 14) (v := undef) rfl (by kernel_rfl) (by kernel_rfl) (by kernel_rfl) (by kernel_rfl) (by kernel_rfl) (fun _ _ _ h => h) (Or.inr ⟨((wanted_at rfl rfl rfl rfl).trans rfl), rfl⟩) (Below.refl _ _) ?_
              simp only [List.getElem_toArray, List.getElem_cons_succ, List.getElem_cons_zero, Act.put, List.setIfInBounds_toArray, List.set_cons_zero, List.set_cons_succ]
              refine but_take (f := 17) (i := 15) (v := undef) rfl (by kernel_rfl) (by kernel_rfl) (by kernel_rfl) (by kernel_rfl) (by kernel_rfl) (fun _ _ _ h => h) (Or.inr ⟨((wanted_at rfl rfl rfl rfl).trans rfl), rfl⟩) (Below.refl _ _) ?_
              simp only [List.getElem_toArray, List.getElem_cons_succ, List.getElem_cons_zero, Act.put, List.setIfInBounds_toArray, List.set_cons_zero, List.set_cons_succ]
              refine but_take (f := 17) (i := 16) (v := undef) rfl (by kernel_rfl) (by kernel_rfl) (by kernel_rfl) (by kernel_rfl) (by kernel_rfl) (fun _ _ _ h => h) (Or.inr ⟨((wanted_at rfl rfl rfl rfl).trans rfl), rfl⟩) (Below.refl _ _) ?_
              simp only [List.getElem_toArray, List.getElem_cons_succ, List.getElem_cons_zero, Act.put, List.setIfInBounds_toArray, List.set_cons_zero, List.set_cons_succ]
              refine but_run (i := 17) (by kernel_rfl) rfl (by rfl) ?_
              simp only [List.getElem_toArray, List.getElem_cons_succ, List.getElem_cons_zero]
              intro K HK
              go_wp2_with fail
              refine HK.out _ wv.drew (fun h => absurd rfl h) ?_
              clear HK
              refine but_done (by kernel_rfl) ?_
              go_wp2_with fail
              go_roundw
              case rel => exact ⟨k + 1, by omega, by go_num, Lib.hid (fit_step HI.out HF.out), HJ2, Lib.hid (bstep HW.out (bstep BV.out (bstep (Below.drew1 _) (Below.refl _ _))))⟩
              case measure => simp [intOf]; omega
            · have q9 : ((l[k]).b == 0) = false := by simpa using q0
              have hneg := ageAt_neg (l.take k) (l[k]).b
              cases q2 : hasG (l.take k) (l[k]).b
              · have HF : Hid (fitG l k = false) := Lib.hid (by rw [hfit, HID.out, parGB, q9, q2]; rfl)
                rw [q2] at hneg
                have q3 : decide (ageAtK (l.take k) (l[k]).b < 0) = true := hneg
                clear hneg q9 q2
                refine but_begin (f := 17) (S := fun V => Below wv.drew.heap.size wv.drew V) (by kernel_rfl) ?_
                refine but_take (f := 17) (i := 0) (v := ?vtxsy0) rfl (by kernel_rfl) (by kernel_rfl) (by kernel_rfl) (by kernel_rfl) (by kernel_rfl) (fun _ _ _ h => h) (Or.inl ⟨(by rfl), ?hytxsy0⟩) (Below.refl _ _) ?resttxsy0
                case hytxsy0 =>
                  intro W hW
                  go_simp
                  exact rfl
                simp only [List.getElem_toArray, List.getElem_cons_succ, List.getElem_cons_zero, Act.put, List.setIfInBounds_toArray, List.set_cons_zero, List.set_cons_succ]
                refine but_take (f := 17) (i := 1) (v := ?vtxsy1) rfl (by kernel_rfl) (by kernel_rfl) (by kernel_rfl) (by kernel_rfl) (by kernel_rfl) (fun _ _ _ h => h) (Or.inl ⟨(by rfl), ?hytxsy1⟩) (Below.refl _ _) ?resttxsy1
                case hytxsy1 =>
                  intro W hW
                  go_simp
                  exact rfl
                simp only [List.getElem_toArray, List.getElem_cons_succ, List.getElem_cons_zero, Act.put, List.setIfInBounds_toArray, List.set_cons_zero, List.set_cons_succ]
                refine but_take (f := 17) (i := 2) (v := ?vtxsy2) rfl (by kernel_rfl) (by kernel_rfl) (by kernel_rfl) (by kernel_rfl) (by kernel_rfl) (fun _ _ _ h => h) (Or.inl ⟨(by rfl), ?hytxsy2⟩) (Below.refl _ _) ?resttxsy2
                case hytxsy2 =>
                  intro W hW
                  go_simp
                  exact rfl
                simp only [List.getElem_toArray, List.getElem_cons_succ, List.getElem_cons_zero, Act.put, List.setIfInBounds_toArray, List.set_cons_zero, List.set_cons_succ]
                refine but_take (f := 17) (i := 3) (v := ?vtxsy3) rfl (by kernel_rfl) (by kernel_rfl) (by kernel_rfl) (by kernel_rfl) (by kernel_rfl) (fun _ _ _ h => h) (Or.inl ⟨(by rfl), ?hytxsy3⟩) (Below.refl _ _) ?resttxsy3
                case hytxsy3 =>
                  intro W hW
                  go_simp
                  exact rfl
                simp only [List.getElem_toArray, List.getElem_cons_succ, List.getElem_cons_zero, Act.put, List.setIfInBounds_toArray, List.set_cons_zero, List.set_cons_succ]
                refine but_take (f := 17) (i := 4) (v := ?vtxsy4) rfl (by kernel_rfl) (by kernel_rfl) (by kernel_rfl) (by kernel_rfl) (by kernel_rfl) (fun _ _ _ h => h) (Or.inl ⟨(by rfl), ?hytxsy4⟩) (Below.refl _ _) ?resttxsy4
                case hytxsy4 =>
                  intro W hW
                  have hb0 : Below wv.heap.size wv W := bstep (Below.drew1 _) hW
                  obtain ⟨y0, y1⟩ := FK.out.on hbb (bstep BV.out hb0)
                  go_simp
                  exact rfl
                simp only [List.getElem_toArray, List.getElem_cons_succ, List.getElem_cons_zero, Act.put, List.setIfInBounds_toArray, List.set_cons_zero, List.set_cons_succ]
                refine but_take (f := 17) (i := 5) (v := ?vtxsy5) rfl (by kernel_rfl) (by kernel_rfl) (by kernel_rfl) (by kernel_rfl) (by kernel_rfl) (fun _ _ _ h => h) (Or.inl ⟨(by rfl), ?hytxsy5⟩) (Below.refl _ _) ?resttxsy5
                case hytxsy5 =>
                  intro W hW
                  go_simp
                  exact rfl
                simp only [List.getElem_toArray, List.getElem_cons_succ, List.getElem_cons_zero, Act.put, List.setIfInBounds_toArray, List.set_cons_zero, List.set_cons_succ]
                refine but_take (f := 17) (i := 6) (v := ?vtxsy6) rfl (by kernel_rfl) (by kernel_rfl) (by kernel_rfl) (by kernel_rfl) (by kernel_rfl) (fun _ _ _ h => h) (Or.inl ⟨(by rfl), ?hytxsy6⟩) (Below.refl _ _) ?resttxsy6
                case hytxsy6 =>
                  intro W hW
                  go_simp
                  exact rfl
                simp only [List.getElem_toArray, List.getElem_cons_succ, List.getElem_cons_zero, Act.put, List.setIfInBounds_toArray, List.set_cons_zero, List.set_cons_succ]
                refine but_take (f := 17) (i := 7) (v := ?vtxsy7) rfl (by kernel_rfl) (by kernel_rfl) (by kernel_rfl) (by kernel_rfl) (by kernel_rfl) (fun _ _ _ h => h) (Or.inl ⟨((wanted_at rfl rfl rfl rfl).trans rfl), ?hytxsy7⟩) (Below.refl _ _) ?resttxsy7
                case hytxsy7 =>
                  intro W hW
                  go_simp
                  exact rfl
                simp only [List.getElem_toArray, List.getElem_cons_succ, List.getElem_cons_zero, Act.put, List.setIfInBounds_toArray, List.set_cons_zero, List.set_cons_succ]
                refine but_take (f := 17) (i := 8) (v := ?vtxsy8) rfl (by kernel_rfl) (by kernel_rfl) (by kernel_rfl) (by kernel_rfl) (by kernel_rfl) (fun _ _ _ h => h) (Or.inl ⟨((wanted_at rfl rfl rfl rfl).trans rfl), ?hytxsy8⟩) (Below.refl _ _) ?resttxsy8
                case hytxsy8 =>
                  intro W hW
                  go_simp
                  exact rfl
                simp only [List.getElem_toArray, List.getElem_cons_succ, List.getElem_cons_zero, Act.put, List.setIfInBounds_toArray, List.set_cons_zero, List.set_cons_succ]
                refine but_take (f := 17) (i := 9) (v := ?vtxsy9) rfl (by kernel_rfl) (by kernel_rfl) (by kernel_rfl) (by kernel_rfl) (by kernel_rfl) (fun _ _ _ h => h) (Or.inl ⟨((wanted_at rfl rfl rfl rfl).trans rfl), ?hytxsy9⟩) (Below.refl _ _) ?resttxsy9
                case hytxsy9 =>
                  intro W hW
                  go_simp
                  exact rfl
                simp only [List.getElem_toArray, List.getElem_cons_succ, List.getElem_cons_zero, Act.put, List.setIfInBounds_toArray, List.set_cons_zero, List.set_cons_succ]
                refine but_take (f := 17) (i := 10) (v := ?vtxsy10) rfl (by kernel_rfl) (by kernel_rfl) (by kernel_rfl) (by kernel_rfl) (by kernel_rfl) (fun _ _ _ h => h) (Or.inl ⟨((wanted_at rfl rfl rfl rfl).trans rfl), ?hytxsy10⟩) (Below.refl _ _) ?resttxsy10
                case hytxsy10 =>
                  intro W hW
                  go_simp
                  exact rfl
                simp only [List.getElem_toArray, List.getElem_cons_succ, List.getElem_cons_zero, Act.put, List.setIfInBounds_toArray, List.set_cons_zero, List.set_cons_succ]
                refine but_take (f := 17) (i := 11) (v := ?vtxsy11) rfl (by kernel_rfl) (by kernel_rfl) (by kernel_rfl) (by kernel_rfl) (by kernel_rfl) (fun _ _ _ h => h) (Or.inl ⟨((wanted_at rfl rfl rfl rfl).trans rfl), ?hytxsy11⟩) (Below.refl _ _) ?resttxsy11
                case hytxsy11 =>
                  intro W hW
                  go_simp
                  exact rfl
                simp only [List.getElem_toArray, List.getElem_cons_succ, List.getElem_cons_zero, Act.put, List.setIfInBounds_toArray, List.set_cons_zero, List.set_cons_succ]
                refine but_take (f := 17) (i := 12) (v := ?vtxsy12) rfl (by kernel_rfl) (by kernel_rfl) (by kernel_rfl) (by kernel_rfl) (by kernel_rfl) (fun _ _ _ h => h) (Or.inl ⟨((wanted_at rfl rfl rfl rfl).trans rfl), ?hytxsy12⟩) (Below.refl _ _) ?resttxsy12
                case hytxsy12 =>
                  intro W hW
                  go_simp
                  exact rfl
                simp only [List.getElem_toArray, List.getElem_cons_succ, List.getElem_cons_zero, Act.put, List.setIfInBounds_toArray, List.set_cons_zero, List.set_cons_succ]
                refine but_take (f := 17) (i := 13) (v := ?vtxsy13) rfl (by kernel_rfl) (by kernel_rfl) (by kernel_rfl) (by kernel_rfl) (by kernel_rfl) (fun _ _ _ h => h) (Or.inl ⟨((wanted_at rfl rfl rfl rfl).trans rfl), ?hytxsy13⟩) (Below.refl _ _) ?resttxsy13
                case hytxsy13 =>
                  intro W hW
                  go_simp
                  exact rfl
                simp only [List.getElem_toArray, List.getElem_cons_succ, List.getElem_cons_zero, Act.put, List.setIfInBounds_toArray, List.set_cons_zero, List.set_cons_succ]
                refine but_take (f := 17) (i := 14) (v := ?vtxsy14) rfl (by kernel_rfl) (by kernel_rfl) (by kernel_rfl) (by kernel_rfl) (by kernel_rfl) (fun _ _ _ h => h) (Or.inl ⟨((wanted_at rfl rfl rfl rfl).trans rfl), ?hytxsy14⟩) (Below.refl _ _) ?resttxsy14
                case hytxsy14 =>
                  intro W hW
                  have hb0 : Below wv.heap.size wv W := bstep (Below.drew1 _) hW
                  obtain ⟨y0, y1⟩ := FK.out.on hbb (bstep BV.out hb0)
                  go_simp
                  exact rfl
                simp only [List.getElem_toArray, List.getElem_cons_succ, List.getElem_cons_zero, Act.put, List.setIfInBounds_toArray, List.set_cons_zero, List.set_cons_succ]
                refine but_run (i := 15) (by kernel_rfl) rfl ((wanted_at rfl rfl rfl rfl).trans rfl) ?_
                simp only [List.getElem_toArray, List.getElem_cons_succ, List.getElem_cons_zero]
                intro K HK
                go_wp2_with fail
                refine (specAgeAtB _ (l.take k) (l[k]).b _ (HTK.out.on (bstep BV.out (bstep (Below.drew1 _) (Below.refl _ _)))) (by simp; omega)).mono ?_
                rintro r Vtxsy1 ⟨rfl, hBtxsy1⟩
                have hStxsy1 := bstep (Below.refl _ _) hBtxsy1
                go_wp2_with fail
                refine HK.out _ Vtxsy1 (fun _ => hStxsy1) ?_
                clear HK
                refine but_take (f := 17) (i := 16) (v := ?vtxsy16) rfl (by kernel_rfl) (by kernel_rfl) (by kernel_rfl) (by kernel_rfl) (by kernel_rfl) (fun _ _ _ h => h) (Or.inl ⟨((wanted_at rfl rfl rfl rfl).trans rfl), ?hytxsy16⟩) hStxsy1 ?resttxsy16
                case hytxsy16 =>
                  intro W hW
                  go_simp
                  exact rfl
                simp only [List.getElem_toArray, List.getElem_cons_succ, List.getElem_cons_zero, Act.put, List.setIfInBounds_toArray, List.set_cons_zero, List.set_cons_succ]
                refine but_run (i := 17) (by kernel_rfl) rfl (by rfl) ?_
                simp only [List.getElem_toArray, List.getElem_cons_succ, List.getElem_cons_zero]
                intro K HK
                go_wp2_with fail
                refine HK.out _ Vtxsy1 (fun h => absurd rfl h) ?_
                clear HK
                refine but_done (by kernel_rfl) ?_
                go_wp2_with fail
                go_ret
                exact ⟨ret_boolB (by rw [← HR.out]; exact (fit_miss hlt HF.out).symm), bstep HW.out (bstep BV.out (bstep (Below.drew1 _) hStxsy1))⟩
              · have HF : Hid (fitG l k = true) := Lib.hid (by rw [hfit, HID.out, parGB, q9, q2]; rfl)
                rw [q2] at hneg
                have q3 : decide (ageAtK (l.take k) (l[k]).b < 0) = false := hneg
                clear hneg q9 q2
                refine but_begin (f := 17) (S := fun V => Below wv.drew.heap.size wv.drew V) (by kernel_rfl) ?_
                refine but_take (f := 17) (i := 0) (v := ?vtysy0) rfl (by kernel_rfl) (by kernel_rfl) (by kernel_rfl) (by kernel_rfl) (by kernel_rfl) (fun _ _ _ h => h) (Or.inl ⟨(by rfl), ?hytysy0⟩) (Below.refl _ _) ?resttysy0
                case hytysy0 =>
                  intro W hW
                  go_simp
                  exact rfl
                simp only [List.getElem_toArray, List.getElem_cons_succ, List.getElem_cons_zero, Act.put, List.setIfInBounds_toArray, List.set_cons_zero, List.set_cons_succ]
                refine but_take (f := 17) (i := 1) (v := ?vtysy1) rfl (by kernel_rfl) (by kernel_rfl) (by kernel_rfl) (by kernel_rfl) (by kernel_rfl) (fun _ _ _ h => h) (Or.inl ⟨(by rfl), ?hytysy1⟩) (Below.refl _ _) ?resttysy1
                case hytysy1 =>
                  intro W hW
                  go_simp
                  exact rfl
                simp only [List.getElem_toArray, List.getElem_cons_succ, List.getElem_cons_zero, Act.put, List.setIfInBounds_toArray, List.set_cons_zero, List.set_cons_succ]
                refine but_take (f := 17) (i := 2) (v := ?vtysy2) rfl (by kernel_rfl) (by kernel_rfl) (by kernel_rfl) (by kernel_rfl) (by kernel_rfl) (fun _ _ _ h => h) (Or.inl ⟨(by rfl), ?hytysy2⟩) (Below.refl _ _) ?resttysy2
                case hytysy2 =>
                  intro W hW
                  go_simp
                  exact rfl
                simp only [List.getElem_toArray, List.getElem_cons_succ, List.getElem_cons_zero, Act.put, List.setIfInBounds_toArray, List.set_cons_zero, List.set_cons_succ]
                refine but_take (f := 17) (i := 3) (v := ?vtysy3) rfl (by kernel_rfl) (by kernel_rfl) (by kernel_rfl) (by kernel_rfl) (by kernel_rfl) (fun _ _ _ h => h) (Or.inl ⟨(by rfl), ?hytysy3⟩) (Below.refl _ _) ?resttysy3
                case hytysy3 =>
                  intro W hW
                  go_simp
                  exact rfl
                simp only [List.getElem_toArray, List.getElem_cons_succ, List.getElem_cons_zero, Act.put, List.setIfInBounds_toArray, List.set_cons_zero, List.set_cons_succ]
                refine but_take (f := 17) (i := 4) (v := ?vtysy4) rfl (by kernel_rfl) (by kernel_rfl) (by kernel_rfl) (by kernel_rfl) (by kernel_rfl) (fun _ _ _ h => h) (Or.inl ⟨(by rfl), ?hytysy4⟩) (Below.refl _ _) ?resttysy4
                case hytysy4 =>
                  intro W hW
                  have hb0 : Below wv.heap.size wv W := bstep (Below.drew1 _) hW
                  obtain ⟨y0, y1⟩ := FK.out.on hbb (bstep BV.out hb0)
                  go_simp
                  exact rfl
                simp only [List.getElem_toArray, List.getElem_cons_succ, List.getElem_cons_zero, Act.put, List.setIfInBounds_toArray, List.set_cons_zero, List.set_cons_succ]
                refine but_take (f := 17) (i := 5) (v := ?vtysy5) rfl (by kernel_rfl) (by kernel_rfl) (by kernel_rfl) (by kernel_rfl) (by kernel_rfl) (fun _ _ _ h => h) (Or.inl ⟨(by rfl), ?hytysy5⟩) (Below.refl _ _) ?resttysy5
                case hytysy5 =>
                  intro W hW
                  go_simp
                  exact rfl
                simp only [List.getElem_toArray, List.getElem_cons_succ, List.getElem_cons_zero, Act.put, List.setIfInBounds_toArray, List.set_cons_zero, List.set_cons_succ]
                refine but_take (f := 17) (i := 6) (v := ?vtysy6) rfl (by kernel_rfl) (by kernel_rfl) (by kernel_rfl) (by kernel_rfl) (by kernel_rfl) (fun _ _ _ h => h) (Or.inl ⟨(by rfl), ?hytysy6⟩) (Below.refl _ _) ?resttysy6
                case hytysy6 =>
                  intro W hW
                  go_simp
                  exact rfl
                simp only [List.getElem_toArray, List.getElem_cons_succ, List.getElem_cons_zero, Act.put, List.setIfInBounds_toArray, List.set_cons_zero, List.set_cons_succ]
                refine but_take (f := 17) (i := 7) (v := ?vtysy7) rfl (by kernel_rfl) (by kernel_rfl) (by kernel_rfl) (by kernel_rfl) (by kernel_rfl) (fun _ _ _ h => h) (Or.inl ⟨((wanted_at rfl rfl rfl rfl).trans rfl), ?hytysy7⟩) (Below.refl _ _) ?resttysy7
                case hytysy7 =>
                  intro W hW
                  go_simp
                  exact rfl
                simp only [List.getElem_toArray, List.getElem_cons_succ, List.getElem_cons_zero, Act.put, List.setIfInBounds_toArray, List.set_cons_zero, List.set_cons_succ]
                refine but_take (f := 17) (i := 8) (v := ?vtysy8) rfl (by kernel_rfl) (by kernel_rfl) (by kernel_rfl) (by kernel_rfl) (by kernel_rfl) (fun _ _ _ h => h) (Or.inl ⟨((wanted_at rfl rfl rfl rfl).trans rfl), ?hytysy8⟩) (Below.refl _ _) ?resttysy8
                case hytysy8 =>
                  intro W hW
                  go_simp
                  exact rfl
                simp only [List.getElem_toArray, List.getElem_cons_succ, List.getElem_cons_zero, Act.put, List.setIfInBounds_toArray, List.set_cons_zero, List.set_cons_succ]
                refine but_take (f := 17) (i := 9) (v := ?vtysy9) rfl (by kernel_rfl) (by kernel_rfl) (by kernel_rfl) (by kernel_rfl) (by kernel_rfl) (fun _ _ _ h => h) (Or.inl ⟨((wanted_at rfl rfl rfl rfl).trans rfl), ?hytysy9⟩) (Below.refl _ _) ?resttysy9
                case hytysy9 =>
                  intro W hW
                  go_simp
                  exact rfl
                simp only [List.getElem_toArray, List.getElem_cons_succ, List.getElem_cons_zero, Act.put, List.setIfInBounds_toArray, List.set_cons_zero, List.set_cons_succ]
                refine but_take (f := 17) (i := 10) (v := ?vtysy10) rfl (by kernel_rfl) (by kernel_rfl) (by kernel_rfl) (by kernel_rfl) (by kernel_rfl) (fun _ _ _ h => h) (Or.inl ⟨((wanted_at rfl rfl rfl rfl).trans rfl), ?hytysy10⟩) (Below.refl _ _) ?resttysy10
                case hytysy10 =>
                  intro W hW
                  go_simp
                  exact rfl
                simp only [List.getElem_toArray, List.getElem_cons_succ, List.getElem_cons_zero, Act.put, List.setIfInBounds_toArray, List.set_cons_zero, List.set_cons_succ]
                refine but_take (f := 17) (i := 11) (v := ?vtysy11) rfl (by kernel_rfl) (by kernel_rfl) (by kernel_rfl) (by kernel_rfl) (by kernel_rfl) (fun _ _ _ h => h) (Or.inl ⟨((wanted_at rfl rfl rfl rfl).trans rfl), ?hytysy11⟩) (Below.refl _ _) ?resttysy11
                case hytysy11 =>
                  intro W hW
                  go_simp
                  exact rfl
                simp only [List.getElem_toArray, List.getElem_cons_succ, List.getElem_cons_zero, Act.put, List.setIfInBounds_toArray, List.set_cons_zero, List.set_cons_succ]
                refine but_take (f := 17) (i := 12) (v := ?vtysy12) rfl (by kernel_rfl) (by kernel_rfl) (by kernel_rfl) (by kernel_rfl) (by kernel_rfl) (fun _ _ _ h => h) (Or.inl ⟨((wanted_at rfl rfl rfl rfl).trans rfl), ?hytysy12⟩) (Below.refl _ _) ?resttysy12
                case hytysy12 =>
                  intro W hW
                  go_simp
                  exact rfl
                simp only [List.getElem_toArray, List.getElem_cons_succ, List.getElem_cons_zero, Act.put, List.setIfInBounds_toArray, List.set_cons_zero, List.set_cons_succ]
                refine but_take (f := 17) (i := 13) (v := ?vtysy13) rfl (by kernel_rfl) (by kernel_rfl) (by kernel_rfl) (by kernel_rfl) (by kernel_rfl) (fun _ _ _ h => h) (Or.inl ⟨((wanted_at rfl rfl rfl rfl).trans rfl), ?hytysy13⟩) (Below.refl _ _) ?resttysy13
                case hytysy13 =>
                  intro W hW
                  go_simp
                  exact rfl
                simp only [List.getElem_toArray, List.getElem_cons_succ, List.getElem_cons_zero, Act.put, List.setIfInBounds_toArray, List.set_cons_zero, List.set_cons_succ]
                refine but_take (f := 17) (i := 14) (v := ?vtysy14) rfl (by kernel_rfl) (by kernel_rfl) (by kernel_rfl) (by kernel_rfl) (by kernel_rfl) (fun _ _ _ h => h) (Or.inl ⟨((wanted_at rfl rfl rfl rfl).trans rfl), ?hytysy14⟩) (Below.refl _ _) ?resttysy14
                case hytysy14 =>
                  intro W hW
                  have hb0 : Below wv.heap.size wv W := bstep (Below.drew1 _) hW
                  obtain ⟨y0, y1⟩ := FK.out.on hbb (bstep BV.out hb0)
                  go_simp
                  exact rfl
                simp only [List.getElem_toArray, List.getElem_cons_succ, List.getElem_cons_zero, Act.put, List.setIfInBounds_toArray, List.set_cons_zero, List.set_cons_succ]
                refine but_run (i := 15) (by kernel_rfl) rfl ((wanted_at rfl rfl rfl rfl).trans rfl) ?_
                simp only [List.getElem_toArray, List.getElem_cons_succ, List.getElem_cons_zero]
                intro K HK
                go_wp2_with fail
                refine (specAgeAtB _ (l.take k) (l[k]).b _ (HTK.out.on (bstep BV.out (bstep (Below.drew1 _) (Below.refl _ _)))) (by simp; omega)).mono ?_
                rintro r Vtysy1 ⟨rfl, hBtysy1⟩
                have hStysy1 := bstep (Below.refl _ _) hBtysy1
                go_wp2_with fail
                refine HK.out _ Vtysy1 (fun _ => hStysy1) ?_
                clear HK
                refine but_take (f := 17) (i := 16) (v := ?vtysy16) rfl (by kernel_rfl) (by kernel_rfl) (by kernel_rfl) (by kernel_rfl) (by kernel_rfl) (fun _ _ _ h => h) (Or.inl ⟨((wanted_at rfl rfl rfl rfl).trans rfl), ?hytysy16⟩) hStysy1 ?resttysy16
                case hytysy16 =>
                  intro W hW
                  go_simp
                  exact rfl
                simp only [List.getElem_toArray, List.getElem_cons_succ, List.getElem_cons_zero, Act.put, List.setIfInBounds_toArray, List.set_cons_zero, List.set_cons_succ]
                refine but_run (i := 17) (by kernel_rfl) rfl (by rfl) ?_
                simp only [List.getElem_toArray, List.getElem_cons_succ, List.getElem_cons_zero]
                intro K HK
                go_wp2_with fail
                refine HK.out _ Vtysy1 (fun h => absurd rfl h) ?_
                clear HK
                refine but_done (by kernel_rfl) ?_
                go_wp2_with fail
                go_roundw
                case rel => exact ⟨k + 1, by omega, by go_num, Lib.hid (fit_step HI.out HF.out), HJ2, Lib.hid (bstep HW.out (bstep BV.out (bstep (Below.drew1 _) hStysy1)))⟩
                case measure => simp [intOf]; omega
    · have hall : decide (∀ i, i < l.length → fitG l i = true) = true := decide_eq_true (fun i hi => HI.out i (by omega))
      have hrise : riseG l = true := decide_eq_true (fun i hi => HJ.out i (by omega) (by omega))
      have hX : agesOkB l = decide (l.length ≤ 16) := by rw [agesOkB, hall, hrise]; simp
      have HX := Lib.hid hX
      clear hall hrise hX
      by_cases h16 : l.length ≤ 16
      · have d0 : decide ((l.length : Int) ≤ 16) = true := decide_eq_true (by omega)
        go_wp2
        go_ret
        exact ⟨ret_boolB (by rw [← HR.out, HX.out, decide_eq_true h16]), HW.out⟩
      · have d0 : decide ((l.length : Int) ≤ 16) = false := decide_eq_false (by omega)
        go_wp2
        go_ret
        exact ⟨ret_boolB (by rw [← HR.out, HX.out, decide_eq_false h16]), HW.out⟩
end Go.Proofs.YtlhemcjahcmdeaaGreatDoor
namespace Go.Proofs.YtlhemcjahcmdeaaGreatDoor
open Go.RowKit
set_option maxRecDepth 100000
set_option linter.unusedSimpArgs false
set_option linter.unusedVariables false

theorem cloneG_any (v : Value) (l : List AgeD) (w : World) (hv : Reads w w.heap.size v (agesD l)) (hn : l.length ≤ 2097152) : Calls Tryz.prog 177 #[v] w (NewG w l) := by
  obtain ⟨A, c, rfl, _, _⟩ := hv.shapeG
  have hA := Reads.atG hv
  rcases A with _ | ad
  · have h0 : l = [] := by
      rcases hA with h | ⟨b, off, h, _⟩
      · have := congrArg List.length h
        rw [gvl_len] at this
        exact List.length_eq_zero_iff.1 (by simp at this; omega)
      · cases h
    subst h0
    have hq := run_eqnil (P := Tryz.prog) w 28 155 none 0 c Tryz.underlying28
    clear hA hv
    go_enter Tryz.func177, Tryz.ntmps177
    go_wp2
    go_ret
    exact ⟨_, rfl, row_nil _ _ _ _, Below.refl _ _⟩
  · have HA := Lib.hid (hA.on (bal1 w (.cells #[] 155)))
    have ho0 := RowG.lit w
    have HB := Lib.hid (bal1 w (.cells #[] 155))
    have HZ := Lib.hid HB.out.size
    have hq := run_eqnil (P := Tryz.prog) w 28 155 (some ad) l.length c Tryz.underlying28
    clear hA hv
    go_enter Tryz.func177, Tryz.ntmps177
    go_wp2_with (at_builtin; refine wpList_appG _ rfl (.tmp 5) (.tmp 6) rfl w.heap.size _ [] rfl ho0 (some ad) l.length c l rfl rfl HA.out (by simp; omega) HZ.out ?_; intro v1 w1 o1 b1; clear ho0)
    have B1 := Lib.hid (HB.out.trans b1)
    rw [List.nil_append] at o1
    go_ret
    exact ⟨v1, rfl, o1, B1.out⟩
end Go.Proofs.YtlhemcjahcmdeaaGreatDoor
namespace Go.Proofs.YtlhemcjahcmdeaaGreatDoor
open Go.RowKit
set_option maxRecDepth 100000
set_option linter.unusedSimpArgs false
set_option linter.unusedVariables false

abbrev POOLB (vl vn va vc vv : Value) (n : Int) : Obj := .cells #[vl, vn, va, vc, vv, .int .i64 n] 32 (0, 0)
theorem errV_ne {c : Int} (h : c ≠ 0) : errV c = .iface 137 (.agg #[.int .i64 c]) := if_neg h
theorem box_setP4 {w : World} {q : Nat} {a b c d e f u : Value} {t : TypeId} (h : w.heap[q]? = some (.cells #[a, b, c, d, e, f] t (0, 0))) : (w.setCell ⟨q, 4, none⟩ u).heap[q]? = some (.cells #[a, b, c, d, u, f] t (0, 0)) := box_set (i := 4) h
theorem nameOk_size {s : ByteArray} (h : nameOkB s = true) : s.size ≤ maxLen := by
  unfold nameOkB inB at h
  simp only [Bool.and_eq_true, decide_eq_true_eq] at h
  have : maxLen = 9223372036854775807 := by kernel_rfl
  omega
theorem mayB_pool {d : PoolD} {s : ByteArray} (h : mayB d s = true) : poolOkB d = true := by
  unfold mayB at h
  rw [Bool.and_eq_true] at h
  exact h.1
/-- What a valid pool's sizes are. -/
theorem pool_small {d : PoolD} (h : poolOkB d = true) : SmallP d ∧ d.ag.length ≤ 16 ∧ d.vo.length ≤ 6 ∧ d.ce.length ≤ 24 ∧ 1 ≤ d.nx ∧ d.nx ≤ 61 ∧ ascB d.vo = true ∧ (∀ k ∈ d.vo, k.a.size ≤ maxLen) ∧ treeOkB d.lo d.ts = true ∧ agesOkB d.ag = true ∧ celsOkB d.ce = true ∧ ∀ v ∈ d.vo, 1 ≤ v.c ∧ v.c ≤ 12 := by
  unfold poolOkB at h
  simp only [Bool.and_eq_true] at h
  obtain ⟨⟨⟨⟨⟨⟨h1, h2⟩, h3⟩, h4⟩, h5⟩, h6⟩, h7⟩ := h
  have g2 := h2
  have g3 := h3
  have g5 := h5
  unfold agesOkB at h2
  unfold celsOkB at h3
  unfold nextB at h4
  unfold volsB at h5
  simp only [Bool.and_eq_true, decide_eq_true_eq] at h2 h3 h4 h5
  have ht := of_decide_eq_true h1
  have hs : sumT d.ts ≤ d.ts.length * 11 := by
    have hf := ht.2.2.2.2.2.1
    have key : ∀ (l : List NodeD), (∀ x ∈ l, x.length + sumN x ≤ 11) → sumT l ≤ l.length * 11 := by
      intro l
      induction l with
      | nil => intro _; exact Nat.le_refl _
      | cons x l ih =>
        intro h
        have h1 := h x List.mem_cons_self
        have h2 := ih (fun y hy => h y (List.mem_cons_of_mem _ hy))
        rw [sumT_cons, List.length_cons]
        omega
    refine key d.ts (fun x hx => ?_)
    obtain ⟨i, hi, rfl⟩ := List.mem_iff_getElem.1 hx
    have h8 := hf i hi
    rw [getD_node hi] at h8
    have h9 := (of_decide_eq_true h8).1
    unfold nodeOkB at h9
    simp only [Bool.and_eq_true, decide_eq_true_eq] at h9
    omega
  refine ⟨⟨?_, by omega, by omega, by omega⟩, h2.2, h5.1.1, Nat.le_of_eq h3.2, h4.1.1, h4.1.2, h5.1.2, ?_, h1, g2, g3, ?_⟩
  · have h10 := ht.2.1
    have h11 := ht.2.2.1
    omega
  · intro k hk
    have := List.all_eq_true.1 h5.2 k hk
    unfold okV at this
    simp only [Bool.and_eq_true] at this
    exact nameOk_size this.1.1
  · intro k hk
    have := List.all_eq_true.1 h5.2 k hk
    unfold okV sizeB at this
    simp only [Bool.and_eq_true, decide_eq_true_eq] at this
    exact this.1.2
theorem did_err {w w' : World} {q : Nat} {S : Nat → Prop} {d : PoolD} {c : Int} (hc : c ≠ 0) (b : Below w.heap.size w w') : DidP w q S (d, c) (.returned (errV c)) w' := ⟨rfl, Only.of_below b _, fun h => absurd h hc⟩
theorem did_errO {w w' : World} {q : Nat} {S : Nat → Prop} {d : PoolD} {c : Int} (hc : c ≠ 0) (b : Only (fun b => b = q ∨ S b) w w') : DidP w q S (d, c) (.returned (errV c)) w' := ⟨rfl, b, fun h => absurd h hc⟩
theorem did_ok {t : TypeId} {w w' : World} {q : Nat} {S : Nat → Prop} {d : PoolD} {vl vn va vc vv : Value} (b : Only (fun b => b = q ∨ S b) w w') (hq : w'.heap[q]? = some (POOLB vl vn va vc vv d.nx)) (hC : PoolC t w' (fun b => S b ∨ w.heap.size ≤ b) vl vn va vc vv d) : DidP w q S (d, 0) (.returned .nilIface) w' := ⟨rfl, b, fun _ => ⟨t, vl, vn, va, vc, vv, hq, hC⟩⟩
end Go.Proofs.YtlhemcjahcmdeaaGreatDoor
namespace Go.Proofs.YtlhemcjahcmdeaaGreatDoor
open Go.RowKit
set_option maxRecDepth 100000
set_option linter.unusedSimpArgs false
set_option linter.unusedVariables false

theorem only_grown {w w' : World} {o : Option Nat} (h : w.grownBy w' o) : Only (fun b => o = some b) w w' := ⟨h.os, h.tape, h.output, h.size, fun i hi hn => h.block i hi (fun e => hn e.symm)⟩
theorem RowVol.ownT {w : World} {base : Nat} {v : Value} {l : List VolD} (h : RowVol w base v l) (S : Nat → Prop) (hS : ∀ g, v.ownBlock = some g → S g) : Owns w S v (volsD l) := by
  refine row_ownsT (h : w.ownsRow _ _ _ _ _ _) S hS ?_ (vols_len l)
  rw [volC_map]
  exact lits_own _ _ _
theorem RowG.ownT {w : World} {base : Nat} {v : Value} {l : List AgeD} (h : RowG w base v l) (S : Nat → Prop) (hS : ∀ g, v.ownBlock = some g → S g) : Owns w S v (agesD l) := by
  refine row_ownsT (h : w.ownsRow _ _ _ _ _ _) S hS ?_ (ages_len l)
  rw [gC_map]
  exact lits_own _ _ _
theorem RowVol.far {w w' : World} {base : Nat} {v : Value} {l : List VolD} {T : Nat → Prop} (h : RowVol w base v l) (hg : Only T w w') (hd : ∀ b, v.ownBlock = some b → b < w.heap.size → ¬ T b) : RowVol w' base v l := h.keep (fun g hv => hg.block g (h.lt g hv).1 (hd g hv (h.lt g hv).1))
theorem RowG.far {w w' : World} {base : Nat} {v : Value} {l : List AgeD} {T : Nat → Prop} (h : RowG w base v l) (hg : Only T w w') (hd : ∀ b, v.ownBlock = some b → b < w.heap.size → ¬ T b) : RowG w' base v l := h.keep (fun g hv => hg.block g (h.lt g hv).1 (hd g hv (h.lt g hv).1))
theorem operAppVol {o : Oper} {a : Act} {Kn : Act → World → Prop} {Q : Exit → Act → World → Prop} (w : World) (hgd : o.guard = none) (s x : Operand)
    (hop : o.op = .call { callee := .builtin .append, args := #[s, x], argTypes := #[30, 30] })
    (base : Nat) (v : Value) (l : List VolD) (hs : a.eval s = v) (hown : RowVol w base v l) (A : Option Addr) (n c : Nat) (m : List VolD) (hx : a.eval x = .slice A n c) (hmn : m.length = n) (hA : At w A (volvl m)) (hlen : l.length + m.length ≤ 1073741824) (hbase : base ≤ w.heap.size)
    (h : ∀ v' w', RowVol w' base v' (l ++ m) → Below base w w' → Only (fun b => v.ownBlock = some b) w w' → (v'.ownBlock = v.ownBlock ∨ v'.ownBlock = some w.heap.size) → Kn (a.put o.dst v') w') : Oper.wp Tryz.prog o a w Kn Q := by
  subst hmn
  refine operAppN w hgd s x 30 41 4 40 (.agg #[.string ⟨#[]⟩, .int .i64 0, .int .i64 0, .bool false]) hop Tryz.underlying30 vol_info rfl (by omega) (by omega) base l.length v (volvl l) hs hown A m.length c (volvl m) hx (volvl_len m) hA (volvl_cells m) hlen hbase ?_
  intro v' w' h2 h3 h4 h5
  refine h v' w' ?_ ((Below.refl _ _).grown h3 hbase (fun k hk => (hown.lt k hk).2)) (only_grown h3) h5
  rw [← volvl_append, ← List.length_append] at h2
  exact h2
theorem operAppG {o : Oper} {a : Act} {Kn : Act → World → Prop} {Q : Exit → Act → World → Prop} (w : World) (hgd : o.guard = none) (s x : Operand)
    (hop : o.op = .call { callee := .builtin .append, args := #[s, x], argTypes := #[28, 28] })
    (base : Nat) (v : Value) (l : List AgeD) (hs : a.eval s = v) (hown : RowG w base v l) (A : Option Addr) (n c : Nat) (m : List AgeD) (hx : a.eval x = .slice A n c) (hmn : m.length = n) (hA : At w A (gvl m)) (hlen : l.length + m.length ≤ 1073741824) (hbase : base ≤ w.heap.size)
    (h : ∀ v' w', RowG w' base v' (l ++ m) → Below base w w' → Only (fun b => v.ownBlock = some b) w w' → (v'.ownBlock = v.ownBlock ∨ v'.ownBlock = some w.heap.size) → Kn (a.put o.dst v') w') : Oper.wp Tryz.prog o a w Kn Q := by
  subst hmn
  refine operAppN w hgd s x 28 155 2 16 (.agg #[.int .i64 0, .int .i64 0]) hop Tryz.underlying28 age_info rfl (by omega) (by omega) base l.length v (gvl l) hs hown A m.length c (gvl m) hx (gvl_len m) hA (gvl_cells m) hlen hbase ?_
  intro v' w' h2 h3 h4 h5
  refine h v' w' ?_ ((Below.refl _ _).grown h3 hbase (fun k hk => (hown.lt k hk).2)) (only_grown h3) h5
  rw [← gvl_append, ← List.length_append] at h2
  exact h2
end Go.Proofs.YtlhemcjahcmdeaaGreatDoor
namespace Go.Proofs.YtlhemcjahcmdeaaGreatDoor
open Go.RowKit
set_option maxRecDepth 100000
set_option linter.unusedSimpArgs false
set_option linter.unusedVariables false

def layA : Array Value → Nat → List Value → Array Value
  | a, _, [] => a
  | a, o, v :: r => layA (a.setIfInBounds o v) (o + 1) r
theorem layA_size (vs : List Value) : ∀ (a : Array Value) (o : Nat), (layA a o vs).size = a.size := by
  induction vs with
  | nil => intro a o; rfl
  | cons v r ih => intro a o; rw [layA, ih]; simp
theorem layA_list (vs : List Value) : ∀ (a : Array Value) (o : Nat), o + vs.length ≤ a.size → (layA a o vs).toList = a.toList.take o ++ (vs ++ a.toList.drop (o + vs.length)) := by
  induction vs with
  | nil => intro a o h; simp [layA]
  | cons v r ih =>
    intro a o h
    simp only [List.length_cons] at h
    rw [layA, ih _ _ (by simp; omega), Array.toList_setIfInBounds, List.take_succ_eq_append_getElem (by simp; omega), List.take_set_of_le (Nat.le_refl _), List.getElem_set_self, List.drop_set_of_lt (by omega)]
    simp only [List.length_cons, List.append_assoc, List.singleton_append, List.cons_append, List.nil_append]
    rw [show o + 1 + r.length = o + (r.length + 1) by omega]
theorem heap_lay (g : Nat) (t : TypeId) (vs : List Value) : ∀ (w : World) (a : Array Value) (o : Nat), w.heap[g]? = some (.cells a t (0, 0)) → (w.setCells g o vs).heap[g]? = some (.cells (layA a o vs) t (0, 0)) := by
  induction vs with
  | nil => intro w a o h; exact h
  | cons v r ih => intro w a o h; exact ih _ _ _ (heap_setCell_same w g o a _ _ h)
theorem below_lay {B g : Nat} (hg : B ≤ g) (vs : List Value) : ∀ (a w : World) (o : Nat), Below B a w → Below B a (w.setCells g o vs) := by
  induction vs with
  | nil => intro a w o h; exact h
  | cons v r ih => intro a w o h; exact ih _ _ _ (h.setCell (p := ⟨g, o, none⟩) hg _)
end Go.Proofs.YtlhemcjahcmdeaaGreatDoor
namespace Go.Proofs.YtlhemcjahcmdeaaGreatDoor
open Go.RowKit
set_option maxRecDepth 100000
set_option linter.unusedSimpArgs false
set_option linter.unusedVariables false

theorem only_lay {g : Nat} (vs : List Value) : ∀ (a w : World) (o : Nat), Only (fun b => b = g) a w → Only (fun b => b = g) a (w.setCells g o vs) := by
  induction vs with
  | nil => intro a w o h; exact h
  | cons v r ih => intro a w o h; exact ih _ _ _ (h.setCell rfl _)
/-- clear of one volume. -/
theorem clear_oneV (W : World) (g o c : Nat) (ty : TypeId) (cur : Array Value) (e : TypeId) (hh : W.heap[g]? = some (.cells cur e (0, 0))) (ho : o + 4 ≤ cur.size) :
    (Builtin.clear_ #[30] ty #[.slice (some ⟨g, o, none⟩) 1 c]).run Tryz.prog W = .ok (.tuple #[]) (W.setCells g o [.string ⟨#[]⟩, .int .i64 0, .int .i64 0, .bool false]) := by
  obtain ⟨i, hi, h0, h1, h2⟩ := info_parts vol_info
  have hst := run_storeCells_cells (P := Tryz.prog) g o [.string ⟨#[]⟩, .int .i64 0, .int .i64 0, .bool false] 0 W (fun j hj => by
    simp only [List.length_cons, List.length_nil] at hj
    rw [cell_of_row W g _ cur e (0, 0) hh, Array.getElem?_eq_getElem (by omega)]; rfl) (fun j hj => frozen_of_row W g _ cur e hh) (by intro v hv; simp at hv; rcases hv with rfl | rfl | rfl <;> rfl)
  simp only [Nat.add_zero] at hst
  have hz : (Builtin.zeroCells (Value.agg #[.string ⟨#[]⟩, .int .i64 0, .int .i64 0, .bool false]).cells 1).toList = [.string ⟨#[]⟩, .int .i64 0, .int .i64 0, .bool false] := by kernel_rfl
  simp [Builtin.clear_, run_underlying Tryz.underlying30, zeroValue, typeInfo, hi, h0, hz, hst]
theorem volvl_take (l : List VolD) (N : Nat) : (volvl l).take (N * 4) = volvl (l.take N) := by
  by_cases h : N ≤ l.length
  · have he : volvl l = volvl (l.take N) ++ volvl (l.drop N) := by rw [← volvl_append, List.take_append_drop]
    have hl : (volvl (l.take N)).length = N * 4 := by rw [volvl_len]; simp; omega
    rw [he, ← hl, List.take_left']
    rfl
  · rw [List.take_of_length_le (by rw [volvl_len]; omega), List.take_of_length_le (by omega)]
set_option maxHeartbeats 4000000 in
theorem deleteV_any (v : Value) (l : List VolD) (N base : Nat) (w : World) (hv : RowVol w base v l) (hb : base ≤ w.heap.size) (hN : N < l.length) (hn : l.length ≤ 2097152) :
    Calls Tryz.prog 136 #[v, .int .i64 (N : Int), .int .i64 ((N : Int) + 1)] w fun e w' => ∃ v', e = .returned v' ∧ RowVol w' base v' (l.eraseIdx N) ∧ v'.ownBlock = v.ownBlock ∧ Only (fun b => v.ownBlock = some b) w w' := by
  rcases row_cases hv with ⟨_, h, _⟩ | ⟨g, cap, rfl, hbg, ⟨cur, hh, hsz, hx⟩, hcap, hmax, hlen⟩
  · omega
  · obtain ⟨M, hM⟩ : ∃ M, l.length = N + 1 + M := ⟨l.length - (N + 1), by omega⟩
    obtain ⟨news, hnews⟩ : ∃ news, news = volvl (l.drop (N + 1)) := ⟨_, rfl⟩
    have hnl : news.length = M * 4 := by rw [hnews, volvl_len, List.length_drop]; omega
    have hin : ∀ j, j < M * 4 → cur.toList[(N + 1) * 4 + j]? = news[j]? := by
      intro j hj
      have h1 : cur.toList[(N + 1) * 4 + j]? = (volvl l)[(N + 1) * 4 + j]? := by
        rw [← hx, List.getElem?_take_of_lt (by omega)]
      have he : volvl l = volvl (l.take (N + 1)) ++ volvl (l.drop (N + 1)) := by rw [← volvl_append, List.take_append_drop]
      have hl2 : (volvl (l.take (N + 1))).length = (N + 1) * 4 := by rw [volvl_len, List.length_take]; omega
      rw [h1, he, List.getElem?_append_right (by omega), hnews, hl2, Nat.add_sub_cancel_left]
    obtain ⟨A, hA, hsrc⟩ : ∃ A : Addr, (if cap = N + 1 then some (⟨g, 0, none⟩ : Addr) else some ⟨g, (N + 1) * 4, none⟩) = some A ∧ Hid (∀ t u, news[t]? = some u → w.drew.cell? (A.add t) = some u) := by
      by_cases h : cap = N + 1
      · refine ⟨⟨g, 0, none⟩, by simp [h], Lib.hid (fun t u hu => ?_)⟩
        have h0 : news.length = 0 := by omega
        rw [List.length_eq_zero_iff.1 h0] at hu
        simp at hu
      · refine ⟨⟨g, (N + 1) * 4, none⟩, by simp [h], Lib.hid (fun t u hu => ?_)⟩
        have ht : t < M * 4 := by
          have := (List.getElem?_eq_some_iff.1 hu).1
          omega
        rw [Addr.add_lit]
        show w.cell? ⟨g, (N + 1) * 4 + t, none⟩ = some u
        rw [cell_of_row w g _ cur _ (0, 0) hh, ← Array.getElem?_toList, hin t ht]
        exact hu
    have s1 : Hid (news.length = M * 4) := Lib.hid hnl
    have s2 : Hid (∀ u ∈ news, u.oneCell' = true) := Lib.hid (by rw [hnews]; exact volvl_cells _)
    have hcs : cap * 4 = cur.size := hsz.symm
    have s3 : Hid (∀ t, t < news.length → (w.drew.cell? ⟨g, 0 + N * 4 + t, none⟩).isSome = true ∧ w.drew.frozen? ⟨g, 0 + N * 4 + t, none⟩ = false) := Lib.hid (fun t ht => by
      refine ⟨?_, frozen_of_row w g _ cur _ hh⟩
      show (w.cell? _).isSome = true
      rw [cell_of_row w g _ cur _ (0, 0) hh, Array.getElem?_eq_getElem (by omega)]
      rfl)
    obtain ⟨W1, hW1⟩ : ∃ W1, W1 = w.drew.setCells g (0 + N * 4) news := ⟨_, rfl⟩
    have hh1 : W1.heap[g]? = some (.cells (layA cur (0 + N * 4) news) 41 (0, 0)) := by rw [hW1]; exact heap_lay g _ news _ _ _ hh
    have hb1 : Only (fun b => b = g) w W1 := by rw [hW1]; exact only_lay _ _ _ _ ((Only.refl _ w).drewN 1)
    have hsz1 : (layA cur (0 + N * 4) news).size = cap * 4 := by rw [layA_size]; exact hsz
    have hcl : ∀ ty c, (Builtin.clear_ #[30] ty #[.slice (some ⟨g, (N + M) * 4, none⟩) 1 c]).run Tryz.prog W1 = .ok (.tuple #[]) (W1.setCells g ((N + M) * 4) [.string ⟨#[]⟩, .int .i64 0, .int .i64 0, .bool false]) := fun ty c => clear_oneV W1 g _ c ty _ _ hh1 (by rw [hsz1]; omega)
    have FIN : Hid (RowVol (W1.setCells g ((N + M) * 4) [.string ⟨#[]⟩, .int .i64 0, .int .i64 0, .bool false]) base (.slice (some ⟨g, 0, none⟩) (N + M) cap) (l.eraseIdx N) ∧ Only (fun b => b = g) w (W1.setCells g ((N + M) * 4) [.string ⟨#[]⟩, .int .i64 0, .int .i64 0, .bool false])) := by
      refine Lib.hid ⟨?_, only_lay _ _ _ _ hb1⟩
      have he : l.eraseIdx N = l.take N ++ l.drop (N + 1) := List.eraseIdx_eq_take_drop_succ l N
      have hel : (l.eraseIdx N).length = N + M := by rw [List.length_eraseIdx_of_lt hN]; omega
      refine ⟨by rw [volvl_len], .inr ⟨g, cap, _, by rw [hel], hbg, heap_lay g _ _ _ _ _ hh1, by omega, hmax, by rw [layA_size]; exact hsz1, ?_⟩⟩
      rw [hel, layA_list _ _ _ (by rw [hsz1]; simp; omega), List.take_append_of_le_length (by rw [List.length_take, Array.length_toList, hsz1]; omega), List.take_take, Nat.min_self, layA_list _ _ _ (by omega), Nat.zero_add, he, volvl_append, ← hnews]
      have hc1 : cur.toList.take (N * 4) = volvl (l.take N) := by
        rw [← volvl_take, ← hx, List.take_take, show min (N * 4) (l.length * 4) = N * 4 by omega]
      rw [hc1, ← List.append_assoc, List.take_append_of_le_length (by rw [List.length_append, volvl_len, List.length_take, hnl]; omega), List.take_of_length_le (by rw [List.length_append, volvl_len, List.length_take, hnl]; omega)]
    have hW : Hid (W1 = w.drew.setCells g (0 + N * 4) news) := Lib.hid hW1
    have hic : N ≤ cap := by omega
    have hjc : N + 1 ≤ cap := by omega
    have HL := Lib.hid hM
    have j0 : (0 : Int) ≤ (N : Int) + 1 := by omega
    have j1 : (N : Int) + 1 ≤ (N : Int) + 1 + (M : Int) := by omega
    have j2 : (N : Int) + (M : Int) ≤ (N : Int) + 1 + (M : Int) := by omega
    have j3 : (0 : Int) ≤ (N : Int) + (M : Int) := by omega
    have j4 : N + 1 + M - (N + M) = 1 := by omega
    have j5 : (N : Int) + 1 + (M : Int) ≤ (cap : Int) := by omega
    have j6 : ¬ cap = N + M := by omega
    obtain ⟨i0, hi0, _, hz1, _⟩ := info_parts vol_info
    clear hW1 hh1 hb1 hsz1 hh hin hnews hnl hx hsz hv hlen
    rw [hM] at hN hcap hn ⊢
    clear hM
    go_enter Tryz.func136, Tryz.ntmps136
    go_wp2_with fail
    go_region_law (refine step_append_room rfl (.tmp 22) (.tmp 25) 30 rfl 41 i0 4 Tryz.underlying30 hi0 hz1 g 0 N cap (by simp [Act.eval, Act.put]) A M (cap - (N + 1)) news (by simp [Act.eval, Act.put]) s1.out hsrc.out s2.out (by omega) s3.out ?_; rw [← hW.out])
    go_wp2
    go_ret
    exact ⟨_, rfl, FIN.out.1, rfl, FIN.out.2.mono (fun b hb => by subst hb; rfl)⟩
end Go.Proofs.YtlhemcjahcmdeaaGreatDoor
namespace Go.Proofs.YtlhemcjahcmdeaaGreatDoor
open Go.RowKit
set_option maxRecDepth 100000
set_option linter.unusedSimpArgs false
set_option linter.unusedVariables false

theorem PoolC.volS {t : TypeId} {w : World} {S : Nat → Prop} {vl vn va vc vv : Value} {d : PoolD} (h : PoolC t w S vl vn va vc vv d) : ∀ g, vv.ownBlock = some g → S g := by
  obtain ⟨P, Q, R, T, p1, p2, p3, p4, p5, p6, p7, h1, h2, h3, h4⟩ := h
  intro g hg
  rcases h4.row' with ⟨rfl, _⟩ | ⟨g', cap, cur, xs, rfl, hg', _⟩
  · simp [Value.ownBlock] at hg
  · simp [Value.ownBlock] at hg
    subst hg
    exact p4 _ hg'
theorem PoolC.rowV {t : TypeId} {w : World} {S : Nat → Prop} {vl vn va vc vv : Value} {d : PoolD} (h : PoolC t w S vl vn va vc vv d) : RowVol w 0 vv d.vo := by
  obtain ⟨P, Q, R, T, p1, p2, p3, p4, p5, p6, p7, h1, h2, h3, h4⟩ := h
  exact h4.rowVol (fun b _ => Nat.zero_le b)
theorem PoolC.reVol {t : TypeId} {w w' : World} {S : Nat → Prop} {vl vn va vc vv vv' : Value} {d : PoolD} {m : List VolD} (h : PoolC t w S vl vn va vc vv d) (hO : Only (fun b => vv.ownBlock = some b) w w') (hr : RowVol w' 0 vv' m) (he : vv'.ownBlock = vv.ownBlock) : PoolC t w' S vl vn va vc vv' { d with vo := m } := by
  obtain ⟨P, Q, R, T, p1, p2, p3, p4, p5, p6, p7, h1, h2, h3, h4⟩ := h
  have hT : ∀ g, vv.ownBlock = some g → T g := by
    intro g hg
    rcases h4.row' with ⟨rfl, _⟩ | ⟨g', cap, cur, xs, rfl, hg', _⟩
    · simp [Value.ownBlock] at hg
    · simp [Value.ownBlock] at hg
      subst hg
      exact hg'
  exact ⟨P, Q, R, T, p1, p2, p3, p4, p5, p6, p7, h1.far hO (fun b hb _ e => (p5 b hb).2.2 (hT b e)), h2.far hO (fun b hb _ e => (p6 b hb).2 (hT b e)), h3.far hO (fun b hb _ e => p7 b hb (hT b e)), hr.ownT T (fun g hg => hT g (he ▸ hg))⟩
theorem volK_nat {s : ByteArray} {l : List VolD} (h : ¬ volK s l < 0) : volJ s l < l.length ∧ volK s l = (volJ s l : Int) := by
  unfold volK at h ⊢
  split at h
  · rename_i h1
    rw [if_pos h1]
    exact ⟨h1, rfl⟩
  · omega
set_option maxHeartbeats 2000000 in
theorem kill_any {t : TypeId} (vl vn va vc vv : Value) (d : PoolD) (s : ByteArray) (q : Nat) (S : Nat → Prop) (w : World) (hq : w.heap[q]? = some (POOLB vl vn va vc vv d.nx)) (hC : PoolC t w S vl vn va vc vv d) (hS : ¬ S q) (hp : poolOkB d = true) :
    Calls Tryz.prog 72 #[.pointer (some ⟨q, 0, none⟩), .string s] w (DidP w q S (killD s d)) := by
  obtain ⟨hs, ha, hvo, _, h0, h1, hasc, _⟩ := pool_small hp
  have hR := hC.reads
  have HC := Lib.hid hC
  obtain ⟨A0, c0, A1, c1, A2, c2, A3, c3, A4, c4, rfl, rfl, rfl, rfl, rfl⟩ := hR.shape
  have HVA := Lib.hid (implVolAt_any _ _ _ _ _ d s w hR (by omega))
  have HQ := Lib.hid hq
  have HS := Lib.hid hS
  have hlt : q < w.heap.size := (Array.getElem?_eq_some_iff.1 hq).1
  obtain ⟨x0, x1, x2, x3, x4, x5, x6⟩ := boxP hq
  by_cases hk : volK s d.vo < 0
  · have d1 : decide (volK s d.vo < 0) = true := decide_eq_true hk
    have HD := Lib.hid (show killD s d = (d, 2) by unfold killD; rw [if_pos hk])
    clear hR hC hq hs ha hvo h0 h1 hS hp hk hasc
    go_enter Tryz.func72, Tryz.ntmps72
    go_wp2_with fail
    refine HVA.out.mono ?_
    rintro r w1 ⟨rfl, b1⟩
    have B1 := Lib.hid b1
    clear x0 x1 x2 x3 x4 x5 x6 b1
    go_wp2
    go_ret
    rw [HD.out]
    exact did_err (by decide) B1.out
  · obtain ⟨hj, hj2⟩ := volK_nat hk
    have HD := Lib.hid (show killD s d = ({ d with vo := d.vo.eraseIdx (volJ s d.vo) }, 0) by unfold killD; rw [if_neg hk])
    rw [hj2] at HVA hk
    obtain ⟨j, hjj⟩ : ∃ j, volJ s d.vo = j := ⟨_, rfl⟩
    rw [hjj] at HVA HD hj hk
    have d1 : decide ((j : Int) < 0) = false := decide_eq_false hk
    have HDV := Lib.hid (fun (W : World) (h : RowVol W 0 (.slice A4 d.vo.length c4) d.vo) => deleteV_any (.slice A4 d.vo.length c4) d.vo j 0 W h (Nat.zero_le _) hj (by omega))
    have hw : IntKind.i64.wrap ((j : Int) + 1) = (j : Int) + 1 := by rw [IntKind.wrap_i64]; omega
    clear hR hC hq hs ha hvo h0 h1 hS hp hk hasc hj2 hjj hj
    go_enter Tryz.func72, Tryz.ntmps72
    go_wp2_with fail
    refine HVA.out.mono ?_
    rintro r w1 ⟨rfl, b1⟩
    have B1 := Lib.hid b1
    clear x0 x1 x2 x3 x4 x5 x6 b1
    obtain ⟨x0, x1, x2, x3, x4, x5, x6⟩ := boxP (box_on HQ.out B1.out)
    go_wp2_with fail
    refine (HDV.out w1 (HC.out.on B1.out).rowV).mono ?_
    rintro r w2 ⟨v2, rfl, o2, e2, g2⟩
    obtain ⟨A5, c5, rfl, _, _⟩ := o2.shape
    have C1 := Lib.hid (HC.out.on B1.out)
    have hqn : ¬ ((Value.slice A4 d.vo.length c4).ownBlock = some q) := fun h => HS.out (C1.out.volS q h)
    have C2 := Lib.hid (C1.out.reVol g2 o2 e2)
    have Q2 := Lib.hid (box_only (box_on HQ.out B1.out) g2 hqn)
    have O2 := Lib.hid ((Only.of_below B1.out (fun b => b = q ∨ S b)).trans (g2.mono (fun b hb => .inr (C1.out.volS b hb))))
    clear x0 x1 x2 x3 x4 x5 x6 o2 e2 g2 hqn C1
    obtain ⟨x0, x1, x2, x3, x4, x5, x6⟩ := boxP Q2.out
    go_wp2
    go_ret
    rw [HD.out]
    exact did_ok (t := t) (O2.out.setCell (.inl rfl) _) (box_setP4 Q2.out) ((C2.out.setFar HS.out).mono (fun b hb => .inl hb))
end Go.Proofs.YtlhemcjahcmdeaaGreatDoor
namespace Go.Proofs.YtlhemcjahcmdeaaGreatDoor
open Go.RowKit
set_option maxRecDepth 100000
set_option linter.unusedSimpArgs false
set_option linter.unusedVariables false

set_option maxHeartbeats 1000000 in
theorem ownVersion_any {t : TypeId} (vl vn va vc vv : Value) (d : PoolD) (id : Int) (w : World) (h : RdP t w w.heap.size vl vn va vc vv d) (hs : SmallP d) : Calls Tryz.prog 286 #[.agg #[vl, vn, va, vc, vv, .int .i64 d.nx], .int .i64 id] w (SaysBool w (ownB d id)) := by
  have hn : d.vo.length ≤ 2097152 := by have := hs.2.2.2; omega
  have hg : d.ag.length ≤ 2097152 := by have := hs.2.1; omega
  have HU := Lib.hid (fun W b => implVolsWith_any vl vn va vc vv d id W (h.on b) hn)
  obtain ⟨A0, c0, A1, c1, A2, c2, A3, c3, A4, c4, rfl, rfl, rfl, rfl, rfl⟩ := h.shape
  have HA := Lib.hid (fun W b => implAgeAt_any (.slice A2 d.ag.length c2) d.ag id W (h.2.1.on b) hg)
  have HK := Lib.hid (fun W b => implKidsOf_any (.slice A2 d.ag.length c2) d.ag id W (h.2.1.on b) hg)
  have HB := Lib.hid (bal1 w (.cells #[.slice A0 d.lo.length c0, .slice A1 d.ts.length c1, .slice A2 d.ag.length c2, .slice A3 d.ce.length c3, .slice A4 d.vo.length c4, .int .i64 d.nx] 32))
  have Q0 := Lib.hid (al1 w (.cells #[.slice A0 d.lo.length c0, .slice A1 d.ts.length c1, .slice A2 d.ag.length c2, .slice A3 d.ce.length c3, .slice A4 d.vo.length c4, .int .i64 d.nx] 32))
  obtain ⟨R, hR⟩ : ∃ R, ownB d id = R := ⟨_, rfl⟩
  rw [hR]
  have hx := hR.symm
  unfold ownB kidlessB at hx
  have HX := Lib.hid hx
  clear h hs hR hx hn hg
  go_enter Tryz.func286, Tryz.ntmps286
  go_upto_region 1 with (fail)
  generalize w.alloc (.cells #[.slice A0 d.lo.length c0, .slice A1 d.ts.length c1, .slice A2 d.ag.length c2, .slice A3 d.ce.length c3, .slice A4 d.vo.length c4, .int .i64 d.nx] 32) = W at *
  obtain ⟨x0, x1, x2, x3, x4, x5, x6⟩ := boxP Q0.out
  go_wp2_with fail
  refine (HA.out _ HB.out).mono ?_
  rintro e w1 ⟨rfl, b1⟩
  replace Q0 := Lib.hid (box_on Q0.out b1)
  replace HB := Lib.hid (bstep HB.out b1)
  clear x0 x1 x2 x3 x4 x5 x6 b1
  obtain ⟨x0, x1, x2, x3, x4, x5, x6⟩ := boxP Q0.out
  have hdec : decide ((ageAtK d.ag id : Int) ≥ 0) = decide (0 ≤ ageAtK d.ag id) := rfl
  cases h1 : decide (0 ≤ ageAtK d.ag id)
  · have HX2 : Hid (R = false) := Lib.hid (by rw [HX.out, h1]; rfl)
    have h2 : ¬ 0 ≤ ageAtK d.ag id := of_decide_eq_false h1
    clear hdec
    go_wp2
    go_ret
    exact ⟨by rw [HX2.out]; rfl, HB.out⟩
  · have h2 : 0 ≤ ageAtK d.ag id := of_decide_eq_true h1
    have HX2 := Lib.hid (HX.out.trans (by rw [h1, Bool.true_and]))
    clear hdec h1 HX
    go_wp2_with fail
    refine (HK.out _ HB.out).mono ?_
    rintro e w2 ⟨vk, rfl, ok, b1⟩
    obtain ⟨A5, c5, rfl, _, _⟩ := ok.owns.reads.lenN
    replace Q0 := Lib.hid (box_on Q0.out b1)
    replace HB := Lib.hid (bstep HB.out b1)
    clear x0 x1 x2 x3 x4 x5 x6 b1 ok
    obtain ⟨x0, x1, x2, x3, x4, x5, x6⟩ := boxP Q0.out
    generalize (kidsK d.ag id).length = m at *
    cases h3 : ((m : Int) == 0)
    · have HX3 : Hid (R = false) := Lib.hid (by rw [HX2.out, decide_eq_false (p := m = 0) (fun e => by rw [e] at h3; simp at h3)]; rfl)
      go_wp2
      go_ret
      exact ⟨by rw [HX3.out]; rfl, HB.out⟩
    · have HX3 : Hid (R = decide (usesK id d.vo = 1)) := Lib.hid (by rw [HX2.out, decide_eq_true (p := m = 0) (by simpa using h3), Bool.true_and])
      clear HX2
      go_wp2_with fail
      refine (HU.out _ HB.out).mono ?_
      rintro e w3 ⟨rfl, b1⟩
      replace HB := Lib.hid (bstep HB.out b1)
      clear x0 x1 x2 x3 x4 x5 x6 b1
      generalize usesK id d.vo = q at *
      cases h4 : ((q : Int) == 1)
      · have HX4 : Hid (R = false) := Lib.hid (by rw [HX3.out]; exact decide_eq_false (fun e => by rw [e] at h4; simp at h4))
        go_wp2
        go_ret
        exact ⟨by rw [HX4.out]; rfl, HB.out⟩
      · have HX4 : Hid (R = true) := Lib.hid (by rw [HX3.out]; exact decide_eq_true (by simp at h4; omega))
        go_wp2
        go_ret
        exact ⟨by rw [HX4.out]; rfl, HB.out⟩
set_option maxHeartbeats 2000000 in
theorem volsOk_any {t : TypeId} (vl vn va vc vv : Value) (d : PoolD) (w : World) (h : RdP t w w.heap.size vl vn va vc vv d) (hs : SmallP d) (hnm : ∀ k ∈ d.vo, k.a.size ≤ maxLen) : Calls Tryz.prog 224 #[.agg #[vl, vn, va, vc, vv, .int .i64 d.nx]] w (SaysBool w (volsB d)) := by
  have hn : d.vo.length ≤ 2097152 := by have := hs.2.2.2; omega
  have HO := Lib.hid (fun W b id => ownVersion_any vl vn va vc vv d id W (h.on b) hs)
  obtain ⟨A0, c0, A1, c1, A2, c2, A3, c3, A4, c4, rfl, rfl, rfl, rfl, rfl⟩ := h.shape
  have HA := Lib.hid (fun W b => ascendingV_any (.slice A4 d.vo.length c4) d.vo W (h.2.2.2.on b) hn)
  have HS := Lib.hid (volSet_any A4 d.vo.length c4)
  have HV := Lib.hid h.2.2.2
  have HN := Lib.hid (fun (v : VolD) (hv : v ∈ d.vo) W => implNameOk_any v.a W (hnm v hv))
  have HB := Lib.hid (bal1 w (.cells #[.slice A0 d.lo.length c0, .slice A1 d.ts.length c1, .slice A2 d.ag.length c2, .slice A3 d.ce.length c3, .slice A4 d.vo.length c4, .int .i64 d.nx] 32))
  have Q0 := Lib.hid (al1 w (.cells #[.slice A0 d.lo.length c0, .slice A1 d.ts.length c1, .slice A2 d.ag.length c2, .slice A3 d.ce.length c3, .slice A4 d.vo.length c4, .int .i64 d.nx] 32))
  unfold lessVV at HA HS
  obtain ⟨R, hR⟩ : ∃ R, volsB d = R := ⟨_, rfl⟩
  rw [hR]
  have HX := Lib.hid hR
  clear h hs hR hn hnm
  go_enter Tryz.func224, Tryz.ntmps224
  go_upto_region 1 with (fail)
  generalize w.alloc (.cells #[.slice A0 d.lo.length c0, .slice A1 d.ts.length c1, .slice A2 d.ag.length c2, .slice A3 d.ce.length c3, .slice A4 d.vo.length c4, .int .i64 d.nx] 32) = W at *
  obtain ⟨x0, x1, x2, x3, x4, x5, x6⟩ := boxP Q0.out
  by_cases h6 : d.vo.length ≤ 6
  · have e6 : decide ((d.vo.length : Int) > 6) = false := decide_eq_false (by omega)
    go_wp2_with fail
    refine (HS.out _).mono ?_
    rintro e w1 ⟨rfl, b1⟩
    replace Q0 := Lib.hid (box_on Q0.out b1)
    replace HB := Lib.hid (bstep HB.out b1)
    clear x0 x1 x2 x3 x4 x5 x6 b1
    obtain ⟨x0, x1, x2, x3, x4, x5, x6⟩ := boxP Q0.out
    go_wp2_with fail
    refine (HA.out _ HB.out).mono ?_
    rintro e w2 ⟨rfl, b1⟩
    replace Q0 := Lib.hid (box_on Q0.out b1)
    replace HB := Lib.hid (bstep HB.out b1)
    clear x0 x1 x2 x3 x4 x5 x6 b1
    obtain ⟨x0, x1, x2, x3, x4, x5, x6⟩ := boxP Q0.out
    cases ha : ascB d.vo
    · have HX2 : Hid (R = false) := Lib.hid (by rw [← HX.out]; unfold volsB; rw [ha, Bool.and_false]; rfl)
      go_wp2
      go_ret
      exact ⟨by rw [HX2.out]; rfl, HB.out⟩
    · have HX2 : Hid (R = d.vo.all (okV d)) := Lib.hid (by rw [← HX.out]; unfold volsB; rw [ha, decide_eq_true h6]; rfl)
      clear x0 x1 x2 x3 x4 x5 x6 ha
      obtain ⟨x0, x1, x2, x3, x4, x5, x6⟩ := boxP Q0.out
      go_wp2
      go_loopw [4, 19] (fun _ i wr => ∃ k : Nat, k ≤ d.vo.length ∧ i = .int .i64 k ∧ Hid (∀ j (hj : j < k) (hl : j < d.vo.length), okV d d.vo[j] = true) ∧ Hid (Below w.heap.size w wr) ∧ Hid (wr.heap[w.heap.size]? = some (.cells #[.slice A0 d.lo.length c0, .slice A1 d.ts.length c1, .slice A2 d.ag.length c2, .slice A3 d.ce.length c3, .slice A4 d.vo.length c4, .int .i64 d.nx] 32))) (fun _ i _ => d.vo.length - (intOf i).toNat)
      case atStart => exact ⟨0, Nat.zero_le _, rfl, Lib.hid (fun j hj => by omega), HB, Q0⟩
      case round =>
        clear x0 x1 x2 x3 x4 x5 x6 Q0 HB
        obtain ⟨k, hk, rfl, HI, HB, Q0⟩ := hrel
        by_cases hlt : k < d.vo.length
        · obtain ⟨b, off, rfl, hbb, hc⟩ := (HV.out.on HB.out).vols hlt
          have i1 : (k : Int) < (d.vo.length : Int) := by omega
          have i2 : (0 : Int) ≤ (k : Int) := by omega
          obtain ⟨y0, y1, y2, y3⟩ := hc k hlt
          have HM := Lib.hid (HN.out _ (List.getElem_mem hlt))
          have HBV := Lib.hid (okV_miss hlt)
          have HST := Lib.hid (okV_step hlt HI.out)
          clear hc
          obtain ⟨v, hv⟩ : ∃ v, v = d.vo[k] := ⟨_, rfl⟩
          rw [← hv] at y0 y1 y2 y3 HM HBV HST
          have b1 := bal1 wr (.cells #[.string v.a, .int .i64 v.b, .int .i64 v.c, .bool v.d] 41)
          have QV := Lib.hid (al1 wr (.cells #[.string v.a, .int .i64 v.b, .int .i64 v.c, .bool v.d] 41))
          replace Q0 := Lib.hid (box_on Q0.out b1)
          have HB2 := Lib.hid (bstep HB.out b1)
          clear b1 hv
          go_upto_region 6 with (fail)
          clear y0 y1 y2 y3
          generalize wr.alloc (.cells #[.string v.a, .int .i64 v.b, .int .i64 v.c, .bool v.d] 41) = wv at *
          obtain ⟨x0, x1, x2, x3, x4, x5, x6⟩ := boxP Q0.out
          obtain ⟨z0, z1, z2, z3, z4⟩ := box4 QV.out
          go_wp2_with fail
          refine (HM.out _).mono ?_
          rintro e _ ⟨rfl, rfl⟩
          cases hname : nameOkB v.a
          · have HF : Hid (R = false) := Lib.hid (by rw [← HX.out]; exact HBV.out (by unfold okV; rw [hname]; rfl))
            go_wp2
            go_ret
            exact ⟨by rw [HF.out]; rfl, HB2.out⟩
          · go_wp2_with fail
            refine (sizeOk_any v.c _).mono ?_
            rintro e _ ⟨rfl, rfl⟩
            cases hsz : sizeB v.c
            · have HF : Hid (R = false) := Lib.hid (by rw [← HX.out]; exact HBV.out (by unfold okV; rw [hsz, Bool.and_false]; rfl))
              go_wp2
              go_ret
              exact ⟨by rw [HF.out]; rfl, HB2.out⟩
            · have HOV : Hid (okV d v = ownB d v.b) := Lib.hid (by unfold okV; rw [hname, hsz]; rfl)
              go_wp2_with fail
              refine (HO.out _ HB2.out v.b).mono ?_
              rintro e w5 ⟨rfl, b1⟩
              replace Q0 := Lib.hid (box_on Q0.out b1)
              have HB3 := Lib.hid (bstep HB2.out b1)
              clear x0 x1 x2 x3 x4 x5 x6 z0 z1 z2 z3 z4 b1
              cases hown : ownB d v.b
              · have HF : Hid (R = false) := Lib.hid (by rw [← HX.out]; exact HBV.out (by rw [HOV.out, hown]))
                go_wp2
                go_ret
                exact ⟨by rw [HF.out]; rfl, HB3.out⟩
              · have HF := Lib.hid (HST.out (by rw [HOV.out, hown]))
                go_wp2
                go_roundw
                case rel => exact ⟨k + 1, by omega, by go_num, HF, HB3, Q0⟩
                case measure => simp [intOf]; omega
        · have HF : Hid (R = true) := Lib.hid (by rw [HX2.out]; exact okV_all (fun j hl => HI.out j (by omega) hl))
          go_wp2
          go_ret
          exact ⟨by rw [HF.out]; rfl, HB.out⟩
  · have e6 : decide ((d.vo.length : Int) > 6) = true := decide_eq_true (by omega)
    have HX2 : Hid (R = false) := Lib.hid (by rw [← HX.out]; unfold volsB; rw [decide_eq_false h6]; rfl)
    go_wp2
    go_ret
    exact ⟨by rw [HX2.out]; rfl, HB.out⟩
end Go.Proofs.YtlhemcjahcmdeaaGreatDoor
namespace Go.Proofs.YtlhemcjahcmdeaaGreatDoor
open Go.RowKit
set_option maxRecDepth 100000
set_option linter.unusedSimpArgs false
set_option linter.unusedVariables false

/-- The first i hold what was kept of the first j of l; from j on nothing has turned. -/
structure DelIn (q : KeyD → Bool) (l m : List KeyD) (i j : Nat) : Prop where
  len : m.length = l.length
  jl : j ≤ l.length
  ij : i < j
  kept : m.take i = (l.take j).filter q
  rest : m.drop j = l.drop j
theorem all_kept {q : KeyD → Bool} {l : List KeyD} (h : ∀ j (hj : j < l.length), q l[j] = true) : l.filter q = l := by
  rw [List.filter_eq_self]
  intro x hx
  obtain ⟨j, hj, rfl⟩ := List.mem_iff_getElem.1 hx
  exact h j hj
theorem DelIn.start {q : KeyD → Bool} {l : List KeyD} {n : Nat} (hn : n < l.length) (h1 : q l[n] = false) (h2 : ∀ j (hj : j < n), q (l[j]'(by omega)) = true) : DelIn q l l n (n + 1) := by
  refine ⟨rfl, hn, Nat.lt_succ_self _, ?_, rfl⟩
  rw [List.take_succ_eq_append_getElem hn, List.filter_append]
  have e : (l.take n).filter q = l.take n := all_kept (fun j hj => by
    rw [List.getElem_take]
    rw [List.length_take] at hj
    exact h2 j (by omega))
  rw [e]
  simp [h1]
theorem DelIn.at {q : KeyD → Bool} {l m : List KeyD} {i j : Nat} (h : DelIn q l m i j) (hj : j < l.length) : m[j]'(by rw [h.len]; exact hj) = l[j] := by
  have h1 := h.rest
  have h2 : (m.drop j)[0]? = (l.drop j)[0]? := by rw [h1]
  rw [List.getElem?_drop, List.getElem?_drop, Nat.add_zero, List.getElem?_eq_getElem hj, List.getElem?_eq_getElem (by rw [h.len]; exact hj)] at h2
  exact Option.some.inj h2
theorem DelIn.drop {q : KeyD → Bool} {l m : List KeyD} {i j : Nat} (h : DelIn q l m i j) (hj : j < l.length) (hq : q l[j] = false) : DelIn q l m i (j + 1) := by
  refine ⟨h.len, hj, Nat.lt_succ_of_lt h.ij, ?_, ?_⟩
  · rw [h.kept, List.take_succ_eq_append_getElem hj, List.filter_append]
    simp [hq]
  · rw [← List.drop_drop, h.rest, List.drop_drop]
theorem DelIn.keep {q : KeyD → Bool} {l m : List KeyD} {i j : Nat} (h : DelIn q l m i j) (hj : j < l.length) (hq : q l[j] = true) : DelIn q l (m.set i l[j]) (i + 1) (j + 1) := by
  have hl := h.len
  have hij := h.ij
  refine ⟨by rw [List.length_set]; exact hl, hj, by omega, ?_, ?_⟩
  · rw [List.take_succ_eq_append_getElem (by rw [List.length_set]; omega), List.take_set_of_le (Nat.le_refl _), List.getElem_set_self, h.kept, List.take_succ_eq_append_getElem hj, List.filter_append]
    simp [hq]
  · rw [List.drop_set_of_lt (by omega), ← List.drop_drop, h.rest, List.drop_drop]
theorem DelIn.done {q : KeyD → Bool} {l m : List KeyD} {i j : Nat} (h : DelIn q l m i j) (hj : ¬ j < l.length) : m.take i = l.filter q ∧ i = (l.filter q).length ∧ i < l.length := by
  have hl := h.len
  have hij := h.ij
  have h1 := h.kept
  rw [show l.take j = l from List.take_of_length_le (by omega)] at h1
  refine ⟨h1, ?_, by have := h.jl; omega⟩
  rw [← h1, List.length_take]
  have := h.jl
  omega
theorem zero_cells (zero : Array Value) (n : Nat) : (Builtin.zeroCells zero n).toList.length = n * zero.size ∧ ((∀ v ∈ zero.toList, v.oneCell' = true) → ∀ v ∈ (Builtin.zeroCells zero n).toList, v.oneCell' = true) := by
  refine ⟨by simp [Builtin.zeroCells], fun h v hv => ?_⟩
  simp only [Builtin.zeroCells, Array.toList_map, Array.toList_range, List.mem_map, List.mem_range] at hv
  obtain ⟨i, hi, rfl⟩ := hv
  have hp : 0 < zero.size := by
    rcases Nat.eq_zero_or_pos zero.size with h0 | h0
    · rw [h0] at hi; simp at hi
    · exact h0
  have hlt := Nat.mod_lt i hp
  rw [getElem!_pos zero _ hlt]
  exact h _ (by simp)
/-- clear of n keys: nothing but the cells of these n turns. -/
theorem clear_keys (W : World) (g o n : Nat) (cur : Array Value) (e : TypeId) (hh : W.heap[g]? = some (.cells cur e (0, 0))) (hn : 0 < n) (ho : o + n * 5 ≤ cur.size) :
    ∃ zs : List Value, zs.length = n * 5 ∧ ∀ ty c, (Builtin.clear_ #[221] ty #[.slice (some ⟨g, o, none⟩) n c]).run Tryz.prog W = .ok (.tuple #[]) (W.setCells g o zs) := by
  obtain ⟨i, hi, h0, h1, h2⟩ := info_parts key_info
  obtain ⟨z1, z2⟩ := zero_cells (Value.agg #[.int .i64 0, .int .i64 0, .int .i64 0, .int .i64 0, .int .i64 0]).cells n
  have hcl : (Value.agg #[.int .i64 0, .int .i64 0, .int .i64 0, .int .i64 0, .int .i64 0]).cells = #[.int .i64 0, .int .i64 0, .int .i64 0, .int .i64 0, .int .i64 0] := by kernel_rfl
  refine ⟨(Builtin.zeroCells (Value.agg #[.int .i64 0, .int .i64 0, .int .i64 0, .int .i64 0, .int .i64 0]).cells n).toList, by rw [z1, hcl]; rfl, fun ty c => ?_⟩
  have hst := run_storeCells_cells (P := Tryz.prog) g o (Builtin.zeroCells (Value.agg #[.int .i64 0, .int .i64 0, .int .i64 0, .int .i64 0, .int .i64 0]).cells n).toList 0 W (fun j hj => by
    rw [z1, hcl] at hj
    have hj2 : j < n * 5 := hj
    rw [cell_of_row W g _ cur e (0, 0) hh, Array.getElem?_eq_getElem (by omega)]; rfl) (fun j hj => frozen_of_row W g _ cur e hh) (z2 (by rw [hcl]; intro v hv; simp at hv; subst hv; rfl))
  simp only [Nat.add_zero] at hst
  obtain ⟨m, rfl⟩ : ∃ m, n = m + 1 := ⟨n - 1, by omega⟩
  simp [Builtin.clear_, run_underlying Tryz.underlying221, zeroValue, typeInfo, hi, h0, hst]
end Go.Proofs.YtlhemcjahcmdeaaGreatDoor
namespace Go.Proofs.YtlhemcjahcmdeaaGreatDoor
open Go.RowKit
set_option maxRecDepth 100000
set_option linter.unusedSimpArgs false
set_option linter.unusedVariables false

theorem kvl_take (l : List KeyD) (N : Nat) : (kvl l).take (N * 5) = kvl (l.take N) := by
  by_cases h : N ≤ l.length
  · have he : kvl l = kvl (l.take N) ++ kvl (l.drop N) := by rw [← kvl_append, List.take_append_drop]
    have hl : (kvl (l.take N)).length = N * 5 := by rw [kvl_len]; simp; omega
    rw [he, ← hl, List.take_left']
    rfl
  · rw [List.take_of_length_le (by rw [kvl_len]; omega), List.take_of_length_le (by omega)]
theorem RwK.at5 {w : World} {g cap : Nat} {l : List KeyD} (h : RwK w g cap l) {i : Nat} (hi : i < l.length) (hc : l.length ≤ cap) (hm : cap ≤ maxLen) : Five w g (i * 5) l[i] := by
  obtain ⟨b, off, hA, _, hk⟩ := (h.owns (S := fun _ => True) trivial hc hm).reads.keys hi
  have h1 := hk i hi
  injection hA with hA
  injection hA with h2 h3
  subst h2
  subst h3
  simpa only [Nat.zero_add] using h1
end Go.Proofs.YtlhemcjahcmdeaaGreatDoor
namespace Go.Proofs.YtlhemcjahcmdeaaGreatDoor
open Go.RowKit
set_option maxRecDepth 100000
set_option linter.unusedSimpArgs false
set_option linter.unusedVariables false

/-- The closure of refs. -/
theorem refs1_any (k : KeyD) (w : World) :
    Calls Tryz.prog 334 #[k.v] w (SaysBool w (k.c != 1)) := by
  unfold KeyD.v keyV
  have Q0 := Lib.hid (al1 w (.cells #[.int .i64 k.a, .int .i64 k.b, .int .i64 k.c, .int .i64 k.d, .int .i64 k.e] 112))
  have b0 := bal1 w (.cells #[.int .i64 k.a, .int .i64 k.b, .int .i64 k.c, .int .i64 k.d, .int .i64 k.e] 112)
  have HB := Lib.hid b0
  clear b0
  obtain ⟨R, hR⟩ : ∃ R, (k.c != 1) = R := ⟨_, rfl⟩
  rw [hR]
  go_enter Tryz.func334, Tryz.ntmps334
  go_upto_region 1 with (fail)
  generalize w.alloc (.cells #[.int .i64 k.a, .int .i64 k.b, .int .i64 k.c, .int .i64 k.d, .int .i64 k.e] 112) = W at *
  obtain ⟨x0, x1, x2, x3, x4, x5⟩ := box5 Q0.out
  cases R
  all_goals
    go_wp2
    go_ret
    exact ⟨rfl, HB.out⟩
set_option maxHeartbeats 1000000 in
theorem indexFuncR_any (v : Value) (l : List KeyD) (w : World) (hv : Reads w w.heap.size v (keysD l)) (hn : l.length ≤ 2097152) :
    Calls Tryz.prog 333 #[v, .func (.func 334) #[] #[]] w fun e w' => ∃ n : Int, e = .returned (.int .i64 n) ∧ Below w.heap.size w w' ∧
      ((n = -1 ∧ ∀ j (hj : j < l.length), ((l[j]).c == 1) = true) ∨ ∃ m : Nat, n = (m : Int) ∧ ∃ h : m < l.length, ((l[m]).c == 1) = false ∧ ∀ j (hj : j < m), ((l[j]'(by omega)).c == 1) = true) := by
  obtain ⟨A, c, rfl, _, _⟩ := hv.shapeK
  have HT := Lib.hid refs1_any
  unfold KeyD.v keyV at HT
  have HV := Lib.hid hv
  clear hv
  go_enter Tryz.func333, Tryz.ntmps333
  go_wp2
  go_loopw [5, 8] (fun _ i wr => ∃ k : Nat, k ≤ l.length ∧ i = .int .i64 k ∧ Hid (∀ j (hj : j < k) (hl : j < l.length), ((l[j]).c == 1) = true) ∧ Hid (Below w.heap.size w wr)) (fun _ i _ => l.length - (intOf i).toNat)
  case atStart => exact ⟨0, Nat.zero_le _, rfl, Lib.hid (fun j hj => by omega), Lib.hid (Below.refl _ _)⟩
  case round =>
    obtain ⟨k, hk, rfl, HI, HB⟩ := hrel
    by_cases hlt : k < l.length
    · obtain ⟨b, off, rfl, hbb, hc⟩ := (HV.out.on HB.out).keys hlt
      have i1 : (k : Int) < (l.length : Int) := by omega
      have i2 : (0 : Int) ≤ (k : Int) := by omega
      obtain ⟨c0, c1, c2, c3, c4⟩ := hc k hlt
      clear hc
      cases hs : ((l[k]).c == 1)
      · have HN : Hid (((l[k]).c != 1) = true) := Lib.hid (by simp only [bne, hs]; rfl)
        have HS := Lib.hid hs
        clear hs
        go_wp2_with fail
        go_at_call 334
        refine (HT.out l[k] _).mono ?_
        rintro r w8 ⟨rfl, b8⟩
        rw [HN.out]
        have B8 := Lib.hid (bstep HB.out b8)
        clear b8 c0 c1 c2 c3 c4
        go_wp2
        go_ret
        exact ⟨_, rfl, B8.out, .inr ⟨k, rfl, hlt, HS.out, fun j hj => HI.out j hj (by omega)⟩⟩
      · have HN : Hid (((l[k]).c != 1) = false) := Lib.hid (by simp only [bne, hs]; rfl)
        have HS := Lib.hid hs
        clear hs
        go_wp2_with fail
        go_at_call 334
        refine (HT.out l[k] _).mono ?_
        rintro r w8 ⟨rfl, b8⟩
        rw [HN.out]
        have B8 := Lib.hid (bstep HB.out b8)
        clear b8 c0 c1 c2 c3 c4
        go_wp2
        go_roundw
        case rel => exact ⟨k + 1, by omega, by go_num, Lib.hid (fun j hj hl => by
          by_cases hjk : j < k
          · exact HI.out j hjk hl
          · have : j = k := by omega
            subst this
            exact HS.out), B8⟩
        case measure => simp [intOf]; omega
    · go_wp2
      go_ret
      exact ⟨_, rfl, HB.out, .inl ⟨rfl, fun j hj => HI.out j (by omega) hj⟩⟩
set_option maxHeartbeats 4000000 in
theorem deleteFuncR_any (v : Value) (l : List KeyD) (base : Nat) (w : World) (hv : RowK w base v l) (hb : base ≤ w.heap.size) (hn : l.length ≤ 2097152) :
    Calls Tryz.prog 303 #[v, .func (.func 334) #[] #[]] w fun e w' => ∃ v', e = .returned v' ∧ RowK w' base v' (l.filter (fun k => k.c == 1)) ∧ Below base w w' := by
  have HT := Lib.hid refs1_any
  unfold KeyD.v keyV at HT
  have HIF := Lib.hid (indexFuncR_any v l w hv.owns.reads hn)
  have HV := Lib.hid hv
  rcases hv.owns.rwK with ⟨rfl, rfl⟩ | ⟨g, cap, rfl, hbg, hR, hcap, hmax⟩
  · clear hv
    go_enter Tryz.func303, Tryz.ntmps303
    go_wp2_with fail
    refine HIF.out.mono ?_
    rintro r w1 ⟨n, rfl, b1, ⟨rfl, _⟩ | ⟨m, rfl, hm, _⟩⟩
    · have B1 := Lib.hid (b1.mono hb)
      have O1 := Lib.hid (HV.out.on b1)
      clear b1
      go_wp2
      go_ret
      exact ⟨_, rfl, O1.out, B1.out⟩
    · simp at hm
  · have HRW := Lib.hid hR
    clear hv hR
    go_enter Tryz.func303, Tryz.ntmps303
    go_wp2_with fail
    refine HIF.out.mono ?_
    rintro r w1 ⟨n, rfl, b1, ⟨rfl, hall⟩ | ⟨m, rfl, hm, hno, hyes⟩⟩
    · have B1 := Lib.hid (b1.mono hb)
      have O1 := Lib.hid (HV.out.on b1)
      have HA : Hid (l.filter (fun k => k.c == 1) = l) := Lib.hid (all_kept (q := fun k => k.c == 1) hall)
      clear b1 hall
      go_wp2
      go_ret
      rw [HA.out]
      exact ⟨_, rfl, O1.out, B1.out⟩
    · have B1 := Lib.hid (b1.mono hb)
      have R1 := Lib.hid (Rw.keep HRW.out (b1.block g (Rw.lt HRW.out)))
      have D1 := Lib.hid (DelIn.start (q := fun k => k.c == 1) hm hno hyes)
      have hm1 : ((m : Int) == -1) = false := beq_eq_false_iff_ne.2 (by omega)
      have i0 : IntKind.i64.wrap ((m : Int) + 1) = (m : Int) + 1 := by rw [IntKind.wrap_i64]; omega
      have HSZ := Lib.hid b1.size
      clear b1 hno hyes HIF HV HRW
      go_wp2
      clear hm1 i0
      go_loopw [5, 6, 7] (fun i j _ wr => ∃ (i' j' : Nat) (t : List KeyD), i = .int .i64 i' ∧ j = .int .i64 j' ∧ Hid (DelIn (fun k => k.c == 1) l t i' j') ∧ Hid (RwK wr g cap t) ∧ Hid (base ≤ wr.heap.size) ∧ Hid (Below base w wr)) (fun _ j _ _ => l.length - (intOf j).toNat)
      case atStart => exact ⟨m, m + 1, l, rfl, by go_num, D1, R1, Lib.hid (Nat.le_trans hb HSZ.out), B1⟩
      case round =>
        clear D1 R1 HSZ B1 hm
        obtain ⟨i, j, t, rfl, rfl, HD, HR, HZ, HB⟩ := hrel
        have hD := HD.out
        have hij := hD.ij
        have hjl := hD.jl
        have htl := hD.len
        by_cases hlt : j < l.length
        · obtain ⟨c0, c1, c2, c3, c4⟩ := HR.out.at5 (i := j) (by omega) (by omega) hmax
          rw [hD.at hlt] at c0 c1 c2 c3 c4
          have i1 : (j : Int) < (l.length : Int) := by omega
          have i2 : (0 : Int) ≤ (j : Int) := by omega
          have hq0 := al1 wr (.cells #[.int .i64 (l[j]).a, .int .i64 (l[j]).b, .int .i64 (l[j]).c, .int .i64 (l[j]).d, .int .i64 (l[j]).e] 112)
          have ba := bal1 wr (.cells #[.int .i64 (l[j]).a, .int .i64 (l[j]).b, .int .i64 (l[j]).c, .int .i64 (l[j]).d, .int .i64 (l[j]).e] 112)
          have HQ := Lib.hid hq0
          have HR2 := Lib.hid (Rw.keep HR.out (ba.block g (Rw.lt HR.out)))
          have HB2 := Lib.hid (HB.out.trans (ba.mono HZ.out))
          have HZ2 := Lib.hid (Nat.le_trans HZ.out ba.size)
          clear hq0 ba hD
          cases hs : ((l[j]).c == 1)
          · have HN : Hid (((l[j]).c != 1) = true) := Lib.hid (by simp only [bne, hs]; rfl)
            have HS := Lib.hid hs
            clear hs
            go_wp2_with fail
            go_at_call 334
            refine (HT.out l[j] _).mono ?_
            rintro r w8 ⟨rfl, b8⟩
            rw [HN.out]
            have R8 := Lib.hid (Rw.keep HR2.out (b8.block g (Rw.lt HR2.out)))
            have B8 := Lib.hid (HB2.out.trans (b8.mono HZ2.out))
            have Z8 := Lib.hid (Nat.le_trans HZ2.out b8.size)
            clear b8 c0 c1 c2 c3 c4 HQ HR2 HB2 HZ2 HR HB HZ
            go_wp2
            go_roundw
            case rel => exact ⟨i, j + 1, t, rfl, by go_num, Lib.hid (HD.out.drop hlt HS.out), R8, Z8, B8⟩
            case measure => simp [intOf]; omega
          · have HN : Hid (((l[j]).c != 1) = false) := Lib.hid (by simp only [bne, hs]; rfl)
            have HS := Lib.hid hs
            clear hs
            go_wp2_with fail
            go_at_call 334
            refine (HT.out l[j] _).mono ?_
            rintro r w8 ⟨rfl, b8⟩
            rw [HN.out]
            have R8 := Lib.hid (Rw.keep HR2.out (b8.block g (Rw.lt HR2.out)))
            have B8 := Lib.hid (HB2.out.trans (b8.mono HZ2.out))
            have Z8 := Lib.hid (Nat.le_trans HZ2.out b8.size)
            obtain ⟨q0, q1, q2, q3, q4, q5⟩ := box5 (box_on HQ.out b8)
            clear b8 c0 c1 c2 c3 c4 HQ HR2 HB2 HZ2 HR HB HZ
            have hil : i < t.length := by omega
            have R9 := Lib.hid (RwK.set R8.out hil l[j])
            have B9 := Lib.hid (b5 (i := i * 5) (u1 := .int .i64 (l[j]).a) (u2 := .int .i64 (l[j]).b) (u3 := .int .i64 (l[j]).c) (u4 := .int .i64 (l[j]).d) (u5 := .int .i64 (l[j]).e) B8.out hbg)
            have hz5 : ∀ z, z < 5 → ∃ v, w8.cell? ⟨g, i * 5 + z, none⟩ = some v := RwK.five R8.out hil
            obtain ⟨v0, d0⟩ := hz5 0 (by omega)
            obtain ⟨v1, d1⟩ := hz5 1 (by omega)
            obtain ⟨v2, d2⟩ := hz5 2 (by omega)
            obtain ⟨v3, d3⟩ := hz5 3 (by omega)
            obtain ⟨v4, d4⟩ := hz5 4 (by omega)
            rw [Nat.add_zero] at d0
            have f0 := Rw.frozen R8.out (i * 5)
            have f1 := Rw.frozen R8.out (i * 5 + 1)
            have f2 := Rw.frozen R8.out (i * 5 + 2)
            have f3 := Rw.frozen R8.out (i * 5 + 3)
            have f4 := Rw.frozen R8.out (i * 5 + 4)
            have i3 : (i : Int) < (l.length : Int) := by omega
            have i4 : (0 : Int) ≤ (i : Int) := by omega
            have i5 : IntKind.i64.wrap ((i : Int) + 1) = (i : Int) + 1 := by rw [IntKind.wrap_i64]; omega
            clear hz5
            go_wp2
            go_roundw
            case rel => exact ⟨i + 1, j + 1, t.set i l[j], by go_num, by go_num, Lib.hid (HD.out.keep hlt HS.out), R9, Lib.hid (by simpa using Z8.out), B9⟩
            case measure => simp [intOf]; omega
        · obtain ⟨hF, hFl, hil⟩ := hD.done hlt
          obtain ⟨cur, hh, hsz, htk⟩ := HR.out
          obtain ⟨zs, hzl, hcl⟩ := clear_keys wr g (i * 5) (l.length - i) cur _ hh (by omega) (by rw [hsz]; omega)
          have FIN : Hid (RowK (wr.setCells g (i * 5) zs) base (.slice (some ⟨g, 0, none⟩) i cap) (l.filter (fun k => k.c == 1)) ∧ Below base w (wr.setCells g (i * 5) zs)) := by
            refine Lib.hid ⟨?_, below_lay hbg _ _ _ _ HB.out⟩
            refine ⟨by rw [kvl_len], .inr ⟨g, cap, _, by rw [← hFl], hbg, heap_lay g _ _ _ _ _ hh, by omega, hmax, by rw [layA_size]; exact hsz, ?_⟩⟩
            rw [← hFl, layA_list _ _ _ (by rw [hzl, hsz]; omega), List.take_append_of_le_length (by rw [List.length_take, Array.length_toList, hsz]; omega), List.take_take, Nat.min_self, ← hF, ← kvl_take, ← htk, List.take_take, show min (i * 5) (t.length * 5) = i * 5 by omega]
          have i1 : ¬ (j : Int) < (l.length : Int) := by omega
          have i2 : (0 : Int) ≤ (i : Int) := by omega
          have i3 : (i : Int) ≤ (l.length : Int) := by omega
          have i4 : (l.length : Int) ≤ (cap : Int) := by omega
          have i5 : (i : Int) ≤ (cap : Int) := by omega
          have i6 : i ≤ cap := by omega
          have i7 : ¬ cap = i := by omega
          clear hF hFl hh hsz htk hzl hD HD HR HB HZ
          go_wp2
          go_ret
          exact ⟨_, rfl, FIN.out.1, FIN.out.2⟩
theorem treeKeysM_any (vl vn : Value) (lo : List Int) (ts : List NodeD) (w : World) (hv : RdT w w.heap.size vl vn lo ts) (hn : ts.length ≤ 1048576) (hs : sumT ts ≤ 1048576) :
    Calls Tryz.prog 288 #[.agg #[vl, vn]] w (NewK w (treeKeysK ts)) := by
  have HK := Lib.hid (fun W b => implTreeKeys_any vl vn lo ts W (hv.on b) hn hs)
  obtain ⟨A, c, A', c', rfl, rfl⟩ := hv.shape
  have b0 := Lib.hid (bal1 w (.cells #[.slice A lo.length c, .slice A' ts.length c'] 27))
  clear hv
  go_enter Tryz.func288, Tryz.ntmps288
  go_wp2_with fail
  refine (HK.out _ b0.out).mono ?_
  rintro e w1 ⟨v, rfl, o, b⟩
  have O := Lib.hid (o.mono b0.out.size)
  have B := Lib.hid (bstep b0.out b)
  clear o b
  go_wp2
  go_ret
  exact ⟨v, rfl, O.out, B.out⟩
theorem refs_any (vl vn : Value) (lo : List Int) (ts : List NodeD) (w : World) (hv : RdT w w.heap.size vl vn lo ts) (hn : ts.length ≤ 1048576) (hs : sumT ts ≤ 1048576) (hl : (treeKeysK ts).length ≤ 2097152) :
    Calls Tryz.prog 290 #[.agg #[vl, vn]] w (NewK w (refsK (treeKeysK ts))) := by
  have HK := Lib.hid (fun W b => treeKeysM_any vl vn lo ts W (hv.on b) hn hs)
  obtain ⟨A, c, A', c', rfl, rfl⟩ := hv.shape
  have b0 := Lib.hid (bal1 w (.cells #[.slice A lo.length c, .slice A' ts.length c'] 27))
  clear hv
  go_enter Tryz.func290, Tryz.ntmps290
  go_wp2_with fail
  refine (HK.out _ b0.out).mono ?_
  rintro e w1 ⟨v, rfl, o, b⟩
  have B := Lib.hid (bstep b0.out b)
  have hz := b.size
  have hz2 := b0.out.size
  have HD := Lib.hid (deleteFuncR_any v (treeKeysK ts) w.heap.size w1 (o.mono hz2) (by omega) hl)
  clear o b
  go_wp2_with fail
  refine HD.out.mono ?_
  rintro e w2 ⟨v2, rfl, o2, b2⟩
  have O := Lib.hid o2
  have BB := Lib.hid (B.out.trans b2)
  clear o2 b2
  go_wp2
  go_ret
  exact ⟨v2, rfl, O.out, BB.out⟩
end Go.Proofs.YtlhemcjahcmdeaaGreatDoor
