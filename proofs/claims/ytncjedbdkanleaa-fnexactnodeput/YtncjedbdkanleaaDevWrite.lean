/- Contracts of impl.spendFuse and impl.WriteSec. Conditions: no slice holds more than 2^20 elements. -/
import Derived.Test.YtncjedbdkanleaaDevCopy
import Derived.Test.YtncjedbdkanleaaDevOk
import Derived.Deep.RegionLaw
namespace Go.Proofs.Ytncjedbdkanleaa
open Go.RowKit
set_option maxRecDepth 100000
set_option linter.unusedSimpArgs false
set_option linter.unusedVariables false

/-- One operation is counted. -/
def spendF (f : Int) : Int := if f = 0 then -1 else if 0 < f then f - 1 else f
def downF (f : Int) (b : Bool) : Bool := if f = 0 then true else b
def spend (d : DevD) : DevD := { d with fuse := spendF d.fuse, down := downF d.fuse d.down }
def Spent (w : World) (v0 v1 : Value) (f : Int) (dn : Bool) (e : Ending) (w' : World) : Prop := e = .returned (.agg #[v0, v1, .int .i64 (spendF f), .bool (downF f dn)]) ∧ Below w.heap.size w w'
def Two (a b : Nat) : Nat → Prop := fun k => k = a ∨ k = b
theorem Two.l (a b : Nat) : Two a b a := .inl rfl
theorem Two.r (a b : Nat) : Two a b b := .inr rfl
/-- What a write to sector n needs. -/
def canW (d : DevD) (n : Int) (l : List UInt8) : Prop := okD d = true ∧ d.down = false ∧ (0 ≤ n ∧ n < d.secs.length) ∧ l.length ≤ 80 ∧ d.cache.length < 60
instance (d : DevD) (n : Int) (l : List UInt8) : Decidable (canW d n l) := by unfold canW; infer_instance
def writeD (d : DevD) (n : Int) (l : List UInt8) : DevD := if canW d n l then (if d.fuse = 0 then spend d else { spend d with cache := d.cache ++ [(n, l)] }) else d
theorem writeD_no {d : DevD} {n : Int} {l : List UInt8} (h : ¬ canW d n l) : writeD d n l = d := if_neg h
theorem writeD_yes {d : DevD} {n : Int} {l : List UInt8} (h : canW d n l) (h0 : d.fuse ≠ 0) : writeD d n l = { spend d with cache := d.cache ++ [(n, l)] } := by
  unfold writeD; rw [if_pos h, if_neg h0]
theorem writeD_down {d : DevD} {n : Int} {l : List UInt8} (h : canW d n l) (h0 : d.fuse = 0) : writeD d n l = spend d := by
  unfold writeD; rw [if_pos h, if_pos h0]
theorem row_ownsS {w : World} {base e z n : Nat} {v : Value} {xs : List Value} {cs : List Dat} (h : w.ownsRow base e z v n xs) (S : Nat → Prop) (hS : ∀ g, v.ownBlock = some g → S g) (ho : OwnsL w (fun b => S b ∧ v.ownBlock ≠ some b) xs cs) (hl : cs.length = n * z) : Owns w S v (.row e z n cs) := by
  rcases row_cases h with ⟨rfl, rfl, rfl⟩ | ⟨g, cap, rfl, hb, hR, hn, hc, _⟩
  · have : cs = [] := List.length_eq_zero_iff.1 (by simpa using hl)
    subst this
    exact .nil _ _ _
  · exact hR.owns (hS g rfl) (ho.mono (fun b hb => ⟨hb.1, fun e => hb.2 (by rw [e]; rfl)⟩)) hn hc hl
theorem Owns.rowL {w : World} {S : Nat → Prop} {v : Value} {e z n : Nat} {cs : List Dat} (h : Owns w S v (.row e z n cs)) (base : Nat) (hb : ∀ b, S b → base ≤ b) :
    ∃ xs, w.ownsRow base e z v n xs ∧ OwnsL w (fun b => S b ∧ v.ownBlock ≠ some b) xs cs ∧ (∀ g, v.ownBlock = some g → S g) := by
  rcases h.rw' with ⟨rfl, rfl, rfl⟩ | ⟨g, cap, xs, rfl, hS, hR, hn, hc, hl, hx, ho⟩
  · exact ⟨[], row_nil _ _ _ _, OwnsL.nil _ _, fun g h => by simp [Value.ownBlock] at h⟩
  · refine ⟨xs, hR.row (hb g hS) hn hc (hx.trans hl), ho.mono (fun b hb => ⟨hb.1, fun h => hb.2 ?_⟩), fun g' h => ?_⟩
    · simp [Value.ownBlock] at h; exact h.symm
    · simp [Value.ownBlock] at h; subst h; exact hS
theorem box_grown {w w' : World} {row : Option Nat} {p : Nat} {o : Obj} (q : w.heap[p]? = some o) (hg : w.grownBy w' row) (hne : row ≠ some p) : w'.heap[p]? = some o := (hg.block p (Array.getElem?_eq_some_iff.1 q).1 (fun e => hne e.symm)).trans q
theorem row_shape {w : World} {base e z n : Nat} {v : Value} {xs : List Value} (h : w.ownsRow base e z v n xs) (hn : 0 < n) : ∃ g cap, v = .slice (some ⟨g, 0, none⟩) n cap := by
  rcases row_cases h with ⟨_, h, _⟩ | ⟨g, cap, rfl, _⟩
  · omega
  · exact ⟨g, cap, rfl⟩
end Go.Proofs.Ytncjedbdkanleaa
