/- Laws of append onto a byte slice of the call's own: from a slice (nil and empty ones among them) and from a string. Conditions: the lengths together are at most 2^41. -/
import Derived.Test.YtcimpcocgmlmoaaBytes
import Derived.Maps.AppendAt
import Derived.Lib.AppendStr
namespace Go.Proofs.Ytcimpcocgmlmoaa
open Go.RowKit
set_option maxRecDepth 100000
set_option linter.unusedSimpArgs false
set_option linter.unusedVariables false

theorem own_of_row {w : World} {base n : Nat} {v : Value} {l : List UInt8} (h : w.ownsRow base 5 1 v n (bv l)) (hb : v.ownBlock ≠ none) : ∃ g, v.ownBlock = some g ∧ base ≤ g ∧ Own w g v l := by
  rcases h.2 with ⟨rfl, _⟩ | ⟨g, cap, cur, rfl, _⟩
  · exact absurd rfl hb
  · obtain ⟨ho, hg⟩ := Own.of_row h
    exact ⟨g, rfl, hg, ho⟩
theorem Own.blk {w : World} {g : Nat} {v : Value} {l : List UInt8} (h : Own w g v l) : v.ownBlock = some g := by
  obtain ⟨cap, cur, rfl, _⟩ := h; rfl
theorem Own.rowB {w : World} {g base : Nat} {v : Value} {l : List UInt8} (h : Own w g v l) (hb : base ≤ g) : w.ownsRow base 5 1 v l.length (bv l) := by
  obtain ⟨cap, cur, rfl, hg, h1, h2, h3, h4⟩ := h
  exact ⟨by simp [bv_length], .inr ⟨g, cap, cur, rfl, hb, hg, h1, h2, by simpa using h3, by simpa using h4⟩⟩
theorem ownBlock_ne {w : World} {base e size n : Nat} {v : Value} {xs : List Value} (h : w.ownsRow base e size v n xs) (hv : v ≠ .slice none 0 0) : v.ownBlock ≠ none := by
  rcases h.2 with ⟨rfl, _⟩ | ⟨g, cap, cur, rfl, _⟩
  · exact absurd rfl hv
  · simp [Value.ownBlock]
theorem Own.not_nil {w : World} {g : Nat} {v : Value} {l : List UInt8} (h : Own w g v l) : v ≠ .slice none 0 0 := by
  obtain ⟨cap, cur, rfl, _⟩ := h; simp

set_option maxRecDepth 100000 in
/-- append onto a slice of the call's own, from a slice. -/
theorem run_appB (w : World) (ty g base : Nat) (v : Value) (l : List UInt8) (ho : Own w g v l) (hb : base ≤ g) (B : Nat) (A : Option Addr) (m : List UInt8) (c : Nat) (hr : Rd w B A m) (hn : A = none → m = []) (hlen : l.length + m.length ≤ 2199023255552) :
    ∃ v' w' g', (Builtin.append_ #[73, 73] ty #[v, .slice A m.length c]).run Try.prog w = .ok v' w' ∧ Own w' g' v' (l ++ m) ∧ base ≤ g' ∧ Below base w w' ∧ (g' = g ∨ g' = w.heap.size) ∧ w.grownBy w' (some g) := by
  obtain ⟨i, hi, h0, h1, h2⟩ := info_parts u8_info
  have hlt := ho.lt
  rcases A with _ | ad
  · have hm := hn rfl
    subst hm
    obtain ⟨cap, cur, rfl, hg, a1, a2, a3, a4⟩ := ho
    refine ⟨_, w, g, ?_, by rw [List.append_nil]; exact ⟨cap, cur, rfl, hg, a1, a2, a3, a4⟩, hb, Below.refl _ _, .inl rfl, World.grownBy.refl _ _⟩
    simp [Builtin.append_, run_underlying Try.underlying73, sizeOf, typeInfo, hi, Builtin.lenOf, Builtin.firstCells, a1, storeCells]
  · have hcells : ∀ j u, (bv m)[j]? = some u → w.cell? (ad.add j) = some u := by
      intro j u hu
      rcases hr with rfl | ⟨b, off, he, _, hc⟩
      · simp [bv] at hu
      · injection he with he
        subst he
        have hj : j < m.length := by
          have := (List.getElem?_eq_some_iff.1 hu).1
          simpa [bv] using this
        rw [bv_at m j hj] at hu
        rw [Addr.add_lit, hc j hj]
        exact hu
    obtain ⟨v', w', hrun, hown, hgr, hnil, hat⟩ := run_append_own_at (P := Try.prog) w base 73 ty 5 i (.int .u8 0) 1 1 Try.underlying73 hi h0 h1 h2 rfl (by omega) v l.length (bv l) (ho.rowB hb) ad m.length c (bv m) (by simp [bv_length]) hcells (bv_one m) (by unfold maxLen; omega) (by omega) (by omega)
    have hv' : v' ≠ .slice none 0 0 := fun e => ho.not_nil (hnil.1 e).1
    rw [← bv_append] at hown
    obtain ⟨g', hg', hbg', ho'⟩ := own_of_row hown (ownBlock_ne hown hv')
    rw [ho.blk] at hgr hat
    refine ⟨v', w', g', hrun, ho', hbg', (Below.refl _ _).grown hgr (by omega) (fun k hk => by injection hk with hk; omega), ?_, hgr⟩
    rw [hg'] at hat
    rcases hat with h | h <;> injection h with h <;> simp [h]

theorem wpList_appB {ops : Array Oper} {rest : List Oper} {o : Oper} {a : Act} {Q : Exit → Act → World → Prop} (w : World) (hgd : o.guard = none) (s x : Operand)
    (hop : o.op = .call { callee := .builtin .append, args := #[s, x], argTypes := #[73, 73] })
    (g base : Nat) (v : Value) (l : List UInt8) (hs : a.eval s = v) (ho : Own w g v l) (hb : base ≤ g) (B : Nat) (A : Option Addr) (m : List UInt8) (n c : Nat) (hx : a.eval x = .slice A n c) (hmn : m.length = n) (hr : Rd w B A m) (hn : A = none → m = []) (hlen : l.length + m.length ≤ 2199023255552)
    (h : ∀ v' w' g', Own w' g' v' (l ++ m) → base ≤ g' → Below base w w' → (g' = g ∨ g' = w.heap.size) → w.grownBy w' (some g) → wpList Try.prog ops Q rest (a.put o.dst v') w') : wpList Try.prog ops Q (o :: rest) a w := by
  subst hmn
  refine wpList_plain hgd fun K hK => ?_
  obtain ⟨v', w', g', hrun, h2, h3, h4, h5, h6⟩ := run_appB w o.type g base v l ho hb B A m c hr hn hlen
  unfold Oper.wp execOp
  simp only [hop, resolve, invoke, builtin, Sem.run_bind, Sem.run_pure, Result.andThen_ok, List.map_toArray, List.map_cons, List.map_nil, hs, hx, hrun]
  exact hK _ _ (h v' w' g' h2 h3 h4 h5 h6)

theorem strCells_bv (s : ByteArray) : Lib.strCells s = bv s.data.toList := by simp [Lib.strCells, bv]
/-- append onto a slice of the call's own, from a string. -/
theorem wpList_appS {ops : Array Oper} {rest : List Oper} {o : Oper} {a : Act} {Q : Exit → Act → World → Prop} (w : World) (hgd : o.guard = none) (sl x : Operand)
    (hop : o.op = .call { callee := .builtin .append, args := #[sl, x], argTypes := #[73, 9] })
    (g base : Nat) (v : Value) (l : List UInt8) (hs : a.eval sl = v) (ho : Own w g v l) (hb : base ≤ g) (s : ByteArray) (hx : a.eval x = .string s) (hlen : l.length + s.size ≤ 2199023255552)
    (h : ∀ v' w' g', Own w' g' v' (l ++ s.data.toList) → base ≤ g' → Below base w w' → wpList Try.prog ops Q rest (a.put o.dst v') w') : wpList Try.prog ops Q (o :: rest) a w := by
  obtain ⟨i, hi, h0, h1, h2⟩ := info_parts u8_info
  have hlt := ho.lt
  refine wpList_plain hgd fun K hK => ?_
  obtain ⟨v', w', hrun, hown, hgr, hnil⟩ := Lib.run_append_own_string (P := Try.prog) w base 73 9 o.type 5 i Try.underlying73 Try.underlying9 hi h0 h1 h2 v l.length (bv l) (ho.rowB hb) s (by unfold maxLen; omega) (by omega) (by omega)
  have hv' : v' ≠ .slice none 0 0 := fun e => ho.not_nil (hnil.1 e).1
  rw [strCells_bv, ← bv_append] at hown
  obtain ⟨g', hg', hbg', ho'⟩ := own_of_row hown (ownBlock_ne hown hv')
  rw [ho.blk] at hgr
  unfold Oper.wp execOp
  simp only [hop, resolve, invoke, builtin, Sem.run_bind, Sem.run_pure, Result.andThen_ok, List.map_toArray, List.map_cons, List.map_nil, hs, hx, hrun]
  exact hK _ _ (h v' w' g' ho' hbg' ((Below.refl _ _).grown hgr (by omega) (fun k hk => by injection hk with hk; omega)))
end Go.Proofs.Ytcimpcocgmlmoaa
