/- The contract of impl.NodeAt. Conditions: at most 1100000 sets and keys. -/
import Derived.Test.YtmpgmjnagpiijaaNodeLay
import Derived.Test.YtmpgmjnagpiijaaKSetFind
namespace Go.Proofs.Ytmpgmjnagpiijaa
open Go.RowKit Go.Shelf
set_option maxRecDepth 100000
set_option linter.unusedSimpArgs false
set_option linter.unusedVariables false
attribute [local go_sem] Oper.semAt_some

theorem list_of {α : Type} {P : Nat → α → Prop} : ∀ n, (∀ k, k < n → ∃ z, P k z) → ∃ zs : List α, zs.length = n ∧ ∀ k (h : k < zs.length), P k zs[k] := by
  intro n
  induction n with
  | zero => intro _; exact ⟨[], rfl, fun k h => by simp at h⟩
  | succ n ih =>
    intro h
    obtain ⟨zs, h1, h2⟩ := ih (fun k hk => h k (by omega))
    obtain ⟨z, hz⟩ := h n (by omega)
    refine ⟨zs ++ [z], by simp [h1], fun k hk => ?_⟩
    by_cases hlt : k < zs.length
    · rw [List.getElem_append_left hlt]; exact h2 k hlt
    · simp only [List.length_append, List.length_singleton] at hk
      have e : k = zs.length := by omega
      subst e
      rw [List.getElem_append_right (Nat.le_refl _)]
      simp only [Nat.sub_self, List.getElem_singleton]
      rw [h1]
      exact hz
theorem sets_sv {w : World} {A : Option Addr} {c : Nat} {ns : List (List KeyD)} (h : Reads w w.heap.size (.slice A ns.length c) (setsD ns)) :
    ∃ zs : List SV, zs.length = ns.length ∧ zs.map SV.ks = ns ∧ SetsAt w w.heap.size A zs ∧ ∀ z ∈ zs, Reads w w.heap.size (.slice z.A z.ks.length z.c) (keysD z.ks) := by
  by_cases h0 : 0 < ns.length
  · obtain ⟨b, off, rfl, hb, hc⟩ := h.set h0
    obtain ⟨zs, hl, hz⟩ := list_of (α := SV) (P := fun k z => ∃ hk : k < ns.length, z.i = k ∧ z.ks = ns[k] ∧ w.cell? ⟨b, off + k, none⟩ = some (.slice z.A z.ks.length z.c) ∧ Reads w w.heap.size (.slice z.A z.ks.length z.c) (keysD z.ks)) ns.length (fun k hk => by
      obtain ⟨A2, c2, h1, _, _, h2⟩ := hc k hk
      exact ⟨⟨k, A2, c2, ns[k]⟩, hk, rfl, rfl, h1, h2⟩)
    refine ⟨zs, hl, ?_, ⟨fun k hk => (hz k hk).2.1, .inr ⟨b, off, rfl, hb, fun k hk => (hz k hk).2.2.2.1⟩⟩, fun z hm => ?_⟩
    · refine List.ext_getElem (by simp [hl]) (fun k h1 h2 => ?_)
      rw [List.getElem_map]
      exact (hz k (by simpa using h1)).2.2.1
    · obtain ⟨k, hk, rfl⟩ := List.getElem_of_mem hm
      exact (hz k hk).2.2.2.2
  · have : ns = [] := List.length_eq_zero_iff.1 (by omega)
    subst this
    exact ⟨[], rfl, rfl, ⟨fun k hk => by simp at hk, .inl rfl⟩, fun z hz => by simp at hz⟩
theorem keysOfS_map (zs : List SV) : keysOfS zs = (zs.map SV.ks).flatten := by simp [keysOfS, List.flatMap_def]
theorem cellsN {W W' : World} {row : Option Nat} (hg : W.grownBy W' row) (hr : ∀ r, row = some r → ∃ o : Obj, W.heap[r]? = some o ∧ o.isCells = false) {b : Nat} {cur : Array Value} {e : TypeId} (h : W.heap[b]? = some (.cells cur e (0, 0))) : W'.heap[b]? = some (.cells cur e (0, 0)) := by
  refine (hg.block b (Array.getElem?_eq_some_iff.1 h).1 (fun he => ?_)).trans h
  obtain ⟨o, h1, h2⟩ := hr b he.symm
  rw [h] at h1
  cases h1
  cases h2
theorem find_pre {K pre : List KeyD} {x : KeyD} {p : KeyD → Bool} (h : pre ++ [x] <+: K) (h1 : ∀ y ∈ pre, p y = false) (h2 : p x = true) : K.find? p = some x := by
  obtain ⟨t, rfl⟩ := h
  rw [List.append_assoc, List.find?_append, List.find?_eq_none.2 (fun y hy => by simp [h1 y hy])]
  simp [List.find?_cons, h2]
theorem find_no {K : List KeyD} {p : KeyD → Bool} (h1 : ∀ y ∈ K, p y = false) : K.find? p = none := List.find?_eq_none.2 (fun y hy => by simp [h1 y hy])
theorem sumN_sv {zs : List SV} {ns : List (List KeyD)} (h : zs.map SV.ks = ns) {z : SV} (hz : z ∈ zs) : z.ks.length ≤ sumN ns := sumN_mem (by rw [← h]; exact List.mem_map_of_mem hz)
/-- The world behind a key's store into block g and a bool's into block h. -/
abbrev st6 (w : World) (g h : Nat) (u1 u2 u3 u4 u5 u6 : Value) : World := (((((w.setCell ⟨g, 0, none⟩ u1).setCell ⟨g, 1, none⟩ u2).setCell ⟨g, 2, none⟩ u3).setCell ⟨g, 3, none⟩ u4).setCell ⟨g, 4, none⟩ u5).setCell ⟨h, 0, none⟩ u6
theorem only6 {S : Nat → Prop} {w w1 : World} {g h : Nat} {u1 u2 u3 u4 u5 u6 : Value} (hO : Only S w w1) (hg : S g) (hh : S h) : Only S w (st6 w1 g h u1 u2 u3 u4 u5 u6) :=
  (((((hO.setCell hg _).setCell hg _).setCell hg _).setCell hg _).setCell hg _).setCell hh _
theorem box6 {w : World} {g h : Nat} {a b c d e f : Value} {t t2 : TypeId} (h1 : w.heap[g]? = some (.cells #[a, b, c, d, e] t (0, 0))) (h2 : w.heap[h]? = some (.cells #[f] t2 (0, 0))) (hne : g ≠ h) (u1 u2 u3 u4 u5 u6 : Value) :
    (st6 w g h u1 u2 u3 u4 u5 u6).heap[g]? = some (.cells #[u1, u2, u3, u4, u5] t (0, 0)) ∧ (st6 w g h u1 u2 u3 u4 u5 u6).heap[h]? = some (.cells #[u6] t2 (0, 0)) := by
  have far : ∀ (W : World) (j : Nat) (u : Value), (W.setCell ⟨g, j, none⟩ u).heap[h]? = W.heap[h]? := fun W j u => Below.heap_setCell _ _ _ _ (by simp; omega)
  refine ⟨(Below.heap_setCell _ _ _ _ (by simp; omega)).trans (box_set (box_set (box_set (box_set (box_set h1))))), box_set (cs := #[f]) ?_⟩
  rw [far, far, far, far, far]
  exact h2
theorem below6 {w w1 : World} {g h : Nat} {u1 u2 u3 u4 u5 u6 : Value} (hO : Below w.heap.size w w1) (hg : w.heap.size ≤ g) (hh : w.heap.size ≤ h) : Below w.heap.size w (st6 w1 g h u1 u2 u3 u4 u5 u6) := (b5' hO hg).setCell (p := ⟨h, 0, none⟩) hh _
theorem SetsAt.mono {W : World} {n₀ n₁ : Nat} {A : Option Addr} {zs : List SV} (h : SetsAt W n₀ A zs) (hn : n₀ ≤ n₁) : SetsAt W n₁ A zs := by
  obtain ⟨h1, h | ⟨b, off, h2, h3, h4⟩⟩ := h
  · exact ⟨h1, .inl h⟩
  · exact ⟨h1, .inr ⟨b, off, h2, by omega, h4⟩⟩
end Go.Proofs.Ytmpgmjnagpiijaa
