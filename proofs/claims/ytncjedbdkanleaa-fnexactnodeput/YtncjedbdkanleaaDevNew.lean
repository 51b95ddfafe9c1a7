/- Contracts of impl.DevNew and spec.DevNew. No condition. -/
import Derived.Test.YtncjedbdkanleaaDevWrite
namespace Go.Proofs.Ytncjedbdkanleaa
open Go.RowKit
set_option maxRecDepth 100000
set_option linter.unusedSimpArgs false
set_option linter.unusedVariables false

def newD (n : Int) : DevD := if 1 ≤ n ∧ n ≤ 60 then ⟨List.replicate n.toNat [], [], -1, false⟩ else ⟨[], [], 0, false⟩
theorem newD_yes {n : Int} (h : 1 ≤ n ∧ n ≤ 60) : newD n = ⟨List.replicate n.toNat [], [], -1, false⟩ := if_pos h
theorem newD_no {n : Int} (h : ¬ (1 ≤ n ∧ n ≤ 60)) : newD n = ⟨[], [], 0, false⟩ := if_neg h
theorem newD_small (n : Int) : SmallD (newD n) := by
  by_cases h : 1 ≤ n ∧ n ≤ 60
  · rw [newD_yes h]
    refine ⟨by simp; omega, by simp, fun l hl => ?_, by simp⟩
    have := List.eq_of_mem_replicate hl; subst this; simp
  · rw [newD_no h]; exact ⟨by simp, by simp, by simp, by simp⟩
theorem nilsL (w : World) (S : Nat → Prop) (n : Nat) : OwnsL w S (List.replicate n (.slice none 0 0)) ((List.replicate n ([] : List UInt8)).map bytesD) := by
  refine ⟨by simp, fun _ _ => False, fun i a b => ?_, fun _ _ h => h.elim, fun _ _ _ _ h => h.elim⟩
  simp; exact .nil _ _ _
theorem own_grow {wr w7 w8 : World} {base e z n : Nat} {u v' : Value} {xs news : List Value} {cs ds : List Dat} (hr : wr.ownsRow base e z u n xs) (ho : OwnsL wr (Tof base u) xs cs) (b7 : Below wr.heap.size wr w7) (hn : OwnsL w7 (fun b => wr.heap.size ≤ b ∧ b < w7.heap.size) news ds)
    (hg : w7.grownBy w8 u.ownBlock) (hat : v'.ownBlock = u.ownBlock ∨ v'.ownBlock = some w7.heap.size) (hbase : base ≤ wr.heap.size) : OwnsL w8 (Tof base v') (xs ++ news) (cs ++ ds) := by
  have hO : Only (fun b => u.ownBlock = some b) w7 w8 := ⟨hg.os, hg.tape, hg.output, hg.size, fun i hi hn => hg.block i hi (fun e => hn e.symm)⟩
  have hz7 := b7.size
  have k1 : OwnsL w8 (fun b => Tof base u b ∧ b < wr.heap.size) xs cs := (ho.lt.on b7).far hO (fun b hb _ hb' => hb.1.2 hb')
  have k2 := hn.far hO (fun b hb _ hb' => by have := (row_lt hr b hb').1; have := hb.1; omega)
  refine k1.append k2 (fun b hb => ⟨hb.1.1, fun hv => ?_⟩) (fun b hb => ⟨by have := hb.1; omega, fun hv => ?_⟩) (fun b hb hb' => by have := hb.2; have := hb'.1; omega)
  · rcases hat with h | h
    · exact hb.1.2 (h ▸ hv)
    · rw [h] at hv; simp at hv; have := hb.2; omega
  · rcases hat with h | h
    · have := (row_lt hr b (h ▸ hv)).1; have := hb.1; omega
    · rw [h] at hv; simp at hv; have := hb.2; omega
theorem At.lit1 (w : World) (a : Value) (e : TypeId) : At (w.alloc (.cells #[a] e)) (some ⟨w.heap.size, 0, none⟩) [a] := by
  refine .inr ⟨w.heap.size, 0, rfl, fun i hi => ?_⟩
  rw [cell_of_row _ _ _ _ _ _ (heap_alloc_new w _)]
  match i, hi with
  | 0, _ => rfl
theorem At.lit1n (w : World) (a : Value) (e : TypeId) {n : Nat} (h : w.heap.size = n) : At (w.alloc (.cells #[a] e)) (some ⟨n, 0, none⟩) [a] := h ▸ At.lit1 w a e
theorem row_ne {w : World} {base e z n : Nat} {v : Value} {xs : List Value} (h : w.ownsRow base e z v n xs) {p : Nat} (hp : p < base) : v.ownBlock ≠ some p := fun hv => by have := (row_lt h p hv).2; omega
theorem row_form {w : World} {base e z n : Nat} {v : Value} {xs : List Value} (h : w.ownsRow base e z v n xs) : ∃ A c, v = .slice A n c := by
  rcases row_cases h with ⟨rfl, rfl, _⟩ | ⟨g, cap, rfl, _⟩
  · exact ⟨none, 0, rfl⟩
  · exact ⟨_, cap, rfl⟩
theorem empty_owns (w : World) : Owns (w.alloc (.cells #[] 5)) (fun b => w.heap.size ≤ b) (.slice (some ⟨w.heap.size, 0, none⟩) 0 0) (bytesD []) := row_owns (row_lit w 5 1) (OwnsL.nil _ _) rfl
end Go.Proofs.Ytncjedbdkanleaa
