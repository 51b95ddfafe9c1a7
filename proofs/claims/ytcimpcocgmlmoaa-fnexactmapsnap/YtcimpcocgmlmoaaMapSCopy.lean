/- The contract for spec.l12Copy: a copy of a list of Maps in new memory. Conditions: at most 1100000 Maps, letters and blocks. -/
import Derived.Test.YtcimpcocgmlmoaaMapCopy
import Derived.Test.YtcimpcocgmlmoaaLast2
import Derived.Test.YtcimpcocgmlmoaaGen
namespace Go.Proofs.Ytcimpcocgmlmoaa
open Go.RowKit
set_option maxRecDepth 100000
set_option linter.unusedSimpArgs false
set_option linter.unusedVariables false

theorem operAppW {P : Program} {o : Oper} {a : Act} {Kn : Act → World → Prop} {Q : Exit → Act → World → Prop} (w : World) (hgd : o.guard = none) (s x : Operand) (t e z by_ : Nat) (zero : Value)
    (hop : o.op = .call { callee := .builtin .append, args := #[s, x], argTypes := #[t, t] }) (ht : P.underlying t = some (.slice e)) (hinfo : (P.info? e).map (fun i => (i.zero, i.size, i.bytes)) = some (some zero, z, by_)) (hzc : zero.cells.size = z) (hz : 0 < z) (hby : by_ ≤ 1024)
    (base n : Nat) (v : Value) (xs : List Value) (hs : a.eval s = v) (hown : w.ownsRow base e z v n xs) (A : Option Addr) (m c : Nat) (news : List Value) (hx : a.eval x = .slice A m c) (hl : news.length = m * z) (hA : At w A news) (h1 : ∀ u ∈ news, u.oneCell' = true) (hlen : n + m ≤ 1073741824) (hbase : base ≤ w.heap.size)
    (h : ∀ v' w', w'.ownsRow base e z v' (n + m) (xs ++ news) → w.grownBy w' v.ownBlock → (v' = .slice none 0 0 ↔ v = .slice none 0 0 ∧ m = 0) → (v'.ownBlock = v.ownBlock ∨ v'.ownBlock = some w.heap.size) → Kn (a.put o.dst v') w') : Oper.wp P o a w Kn Q := by
  have h2 := step_appV (ops := #[]) (Q := Q) (E := True) w hgd s x t e z by_ zero hop ht hinfo hzc hz hby base n v xs hs hown A m c news hx hl hA h1 hlen hbase h
  rwa [if_pos (by simp [Region.wanted, hgd])] at h2
theorem operAppI {o : Oper} {a : Act} {Kn : Act → World → Prop} {Q : Exit → Act → World → Prop} (w : World) (hgd : o.guard = none) (s x : Operand)
    (hop : o.op = .call { callee := .builtin .append, args := #[s, x], argTypes := #[50, 50] })
    (base : Nat) (v : Value) (l : List Int) (hs : a.eval s = v) (hown : RowI w base v l) (A : Option Addr) (n c : Nat) (m : List Int) (hx : a.eval x = .slice A n c) (hmn : m.length = n) (hA : At w A (m.map iV)) (hlen : l.length + m.length ≤ 1073741824) (hbase : base ≤ w.heap.size)
    (h : ∀ v' w', RowI w' base v' (l ++ m) → Below base w w' → Kn (a.put o.dst v') w') : Oper.wp Try.prog o a w Kn Q := by
  subst hmn
  refine operAppW w hgd s x 50 3 1 8 (.int .i64 0) hop Try.underlying50 int_info7 rfl (by omega) (by omega) base l.length v (l.map iV) hs hown A m.length c (m.map iV) hx (by simp) hA (by intro u hu; simp only [List.mem_map] at hu; obtain ⟨n, _, rfl⟩ := hu; rfl) hlen hbase ?_
  intro v' w' h2 h3 h4 h5
  refine h v' w' ?_ ((Below.refl _ _).grown h3 hbase (fun k hk => (hown.lt k hk).2))
  rw [← List.map_append, ← List.length_append] at h2
  exact h2
/-- A row of Maps of the call's own, n of them. -/
def RowM (w : World) (base : Nat) (v : Value) (n : Nat) (l : List MapD) : Prop := ∃ xs, w.ownsRow base 53 3 v n xs ∧ OwnsL w (Tof base v) xs (l.flatMap mapC)
theorem RowM.form {w : World} {base n : Nat} {v : Value} {l : List MapD} (h : RowM w base v n l) : ∃ A c, v = .slice A n c := by
  obtain ⟨xs, hr, _⟩ := h
  exact row_form hr
theorem RowM.owns {w : World} {base n : Nat} {v : Value} {l : List MapD} (h : RowM w base v n l) (hn : l.length = n) : Owns w (fun b => base ≤ b) v (mapsT 53 l) := by
  obtain ⟨xs, hr, ho⟩ := h
  subst hn
  exact row_owns hr ho (maps_len l)
theorem RowM.of {w : World} {base : Nat} {v : Value} {l : List MapD} (h : Owns w (fun b => base ≤ b) v (mapsT 53 l)) : RowM w base v l.length l := by
  rcases Owns.rw' h with ⟨rfl, h0, hc⟩ | ⟨g, cap, xs, rfl, hS, hR, hn, hc, hl, hx, ho⟩
  · have : l = [] := List.length_eq_zero_iff.1 h0
    subst this
    exact ⟨[], row_nil _ _ _ _, OwnsL.nil _ _⟩
  · exact ⟨xs, hR.row hS hn hc (hx.trans hl), ho.mono (fun b hb => ⟨hb.1, fun e => hb.2 (by simp [Value.ownBlock] at e; exact e.symm)⟩)⟩
theorem RowM.on {w w' : World} {base n : Nat} {v : Value} {l : List MapD} (h : RowM w base v n l) (hb : Below w.heap.size w w') : RowM w' base v n l := by
  obtain ⟨xs, hr, ho⟩ := h
  exact ⟨xs, row_on hr hb, ho.on hb⟩
theorem RowM.lt {w : World} {base n : Nat} {v : Value} {l : List MapD} (h : RowM w base v n l) : ∀ g, v.ownBlock = some g → g < w.heap.size ∧ base ≤ g := by
  obtain ⟨xs, hr, ho⟩ := h
  exact row_lt hr
theorem At.lit3 (w : World) (a b c : Value) (e : TypeId) : At (w.alloc (.cells #[a, b, c] e)) (some ⟨w.heap.size, 0, none⟩) [a, b, c] := by
  refine .inr ⟨w.heap.size, 0, rfl, fun i hi => ?_⟩
  rw [cell_of_row _ _ _ _ _ _ (heap_alloc_new w _)]
  match i, hi with
  | 0, _ => rfl
  | 1, _ => rfl
  | 2, _ => rfl
/-- One more Map, its blocks in memory made since wr, is appended to a row of Maps. -/
theorem operAppM {o : Oper} {a : Act} {Kn : Act → World → Prop} {Q : Exit → Act → World → Prop} (wr w : World) (b7 : Below wr.heap.size wr w) (hgd : o.guard = none) (s x : Operand)
    (hop : o.op = .call { callee := .builtin .append, args := #[s, x], argTypes := #[32, 32] })
    (base n : Nat) (v : Value) (l : List MapD) (hs : a.eval s = v) (hr : RowM wr base v n l) (hbase : base ≤ wr.heap.size) (A : Option Addr) (c : Nat) (k : MapD) (u : Value) (hx : a.eval x = .slice A 1 c) (hA : At w A [.string k.a, .bool k.f, u])
    (hu : Owns w (fun b => wr.heap.size ≤ b ∧ b < w.heap.size) u (intsD k.l)) (hlen : n + 1 ≤ 1073741824)
    (h : ∀ v' w', RowM w' base v' (n + 1) (l ++ [k]) → Below base w w' → Kn (a.put o.dst v') w') : Oper.wp Try.prog o a w Kn Q := by
  obtain ⟨xs, hr, ho⟩ := hr
  have hz := b7.size
  obtain ⟨A5, c5, e5, _⟩ := Reads.lenN (show Reads w w.heap.size u (.row _ _ _ _) from hu.reads)
  refine operAppW w hgd s x 32 53 3 48 (.agg #[.string ⟨#[]⟩, .bool false, .slice none 0 0]) hop Try.underlying32 map_info rfl (by omega) (by omega) base n v xs hs (row_on hr b7) A 1 c [.string k.a, .bool k.f, u] hx rfl hA (by
    intro y hy
    simp at hy
    rcases hy with rfl | rfl | rfl
    · rfl
    · rfl
    · rw [e5]; rfl) hlen (by omega) ?_
  intro v' w' h2 h3 h4 h5
  refine h v' w' ⟨_, h2, ?_⟩ ((Below.refl _ _).grown h3 (by omega) (fun k hk => (row_lt hr k hk).2))
  rw [List.flatMap_append]
  refine own_grow hr ho b7 ?_ h3 h5 hbase
  have e : [k].flatMap mapC = [.lit (.string k.a), .lit (.bool k.f), intsD k.l] := by simp [mapC]
  rw [e]
  exact OwnsL.lits (OwnsL.lits (OwnsL.one hu))
set_option maxHeartbeats 4000000 in
theorem l12Copy_any {t : TypeId} (v : Value) (l : List MapD) (w : World) (hv : Reads w w.heap.size v (mapsT t l)) (hs : SmallM l) : Calls Try.prog 49 #[v] w (NewM w l) := by
  obtain ⟨A, c, rfl, _, _⟩ := Reads.lenN hv
  have hln : l.length ≤ 1100000 := hs.1
  have HV := Lib.hid hv
  have HS := Lib.hid hs
  have REL : Hid (RowM (w.alloc (.cells #[] 53)) w.heap.size (.slice (some ⟨w.heap.size, 0, none⟩) 0 0) 0 []) := Lib.hid ⟨[], row_lit w 53 3, OwnsL.nil _ _⟩
  have HB0 := Lib.hid (bal1 w (.cells #[] 53))
  clear hv hs
  go_enter Try.func49, Try.ntmps49
  go_wp2
  go_loopw [3, 4] (fun u i wr => ∃ (k : Nat), k ≤ l.length ∧ i = .int .i64 k ∧ Hid (RowM wr w.heap.size u k (l.take k)) ∧ Hid (Below w.heap.size w wr)) (fun _ i _ => l.length - (intOf i).toNat)
  case atStart => exact ⟨0, Nat.zero_le _, rfl, by simpa using REL, HB0⟩
  case round =>
    clear REL HB0
    obtain ⟨k, hk, rfl, HR, HB⟩ := hrel
    obtain ⟨Au, cu, hau⟩ := HR.out.form
    subst hau
    by_cases hlt : k < l.length
    · have hzw := HB.out.size
      obtain ⟨b, off, rfl, hbb, _⟩ := HV.out.maps hlt
      obtain ⟨p, off', hbe, _, hc⟩ := HV.out.maps hlt
      cases hbe
      obtain ⟨A1, d1, hf, _, _, r1⟩ := hc k hlt
      have HF := Lib.hid hf
      have R1 := Lib.hid r1
      have hlk := (HS.out.at hlt).2
      have HTK : Hid (l.take (k + 1) = l.take k ++ [l[k]]) := Lib.hid (List.take_succ_eq_append_getElem hlt)
      have i1 : (k : Int) < (l.length : Int) := by omega
      have i2 : (0 : Int) ≤ (k : Int) := by omega
      clear hc hf r1
      generalize l[k] = x at *
      go_upto_region 5 with (fail)
      refine but_begin (f := 21) (S := fun V => Below w.heap.size w V) (by kernel_rfl) ?_
      have hUd : Below wr.heap.size wr wr.drew := Below.drew1 _
      have hUz : wr.heap.size ≤ wr.drew.heap.size := Nat.le_refl _
      have hS0 : Below w.heap.size w wr.drew := bstep HB.out hUd
      generalize wr.drew = Ud at *
      refine but_take (f := 21) (i := 0) (v := ?vc0) rfl (by kernel_rfl) (by kernel_rfl) (by kernel_rfl) (by kernel_rfl) (by kernel_rfl) (fun _ _ _ h => h) (Or.inl ⟨(by rfl), ?hyc0⟩) hS0 ?restc0
      case hyc0 =>
        intro W hW
        go_simp
        exact rfl
      simp only [List.getElem_toArray, List.getElem_cons_succ, List.getElem_cons_zero, Act.put, List.setIfInBounds_toArray, List.set_cons_zero, List.set_cons_succ]
      refine but_take (f := 21) (i := 1) (v := ?vc1) rfl (by kernel_rfl) (by kernel_rfl) (by kernel_rfl) (by kernel_rfl) (by kernel_rfl) (fun _ _ _ h => h) (Or.inl ⟨(by rfl), ?hyc1⟩) hS0 ?restc1
      case hyc1 =>
        intro W hW
        go_simp
        exact rfl
      simp only [List.getElem_toArray, List.getElem_cons_succ, List.getElem_cons_zero, Act.put, List.setIfInBounds_toArray, List.set_cons_zero, List.set_cons_succ]
      refine but_take (f := 21) (i := 2) (v := ?vc2) rfl (by kernel_rfl) (by kernel_rfl) (by kernel_rfl) (by kernel_rfl) (by kernel_rfl) (fun _ _ _ h => h) (Or.inl ⟨(by rfl), ?hyc2⟩) hS0 ?restc2
      case hyc2 =>
        intro W hW
        go_simp
        exact rfl
      simp only [List.getElem_toArray, List.getElem_cons_succ, List.getElem_cons_zero, Act.put, List.setIfInBounds_toArray, List.set_cons_zero, List.set_cons_succ]
      refine but_take (f := 21) (i := 3) (v := ?vc3) rfl (by kernel_rfl) (by kernel_rfl) (by kernel_rfl) (by kernel_rfl) (by kernel_rfl) (fun _ _ _ h => h) (Or.inl ⟨(by rfl), ?hyc3⟩) hS0 ?restc3
      case hyc3 =>
        intro W hW
        go_simp
        exact rfl
      simp only [List.getElem_toArray, List.getElem_cons_succ, List.getElem_cons_zero, Act.put, List.setIfInBounds_toArray, List.set_cons_zero, List.set_cons_succ]
      refine but_take (f := 21) (i := 4) (v := ?vc4) rfl (by kernel_rfl) (by kernel_rfl) (by kernel_rfl) (by kernel_rfl) (by kernel_rfl) (fun _ _ _ h => h) (Or.inl ⟨(by rfl), ?hyc4⟩) hS0 ?restc4
      case hyc4 =>
        intro W hW
        go_simp
        exact rfl
      simp only [List.getElem_toArray, List.getElem_cons_succ, List.getElem_cons_zero, Act.put, List.setIfInBounds_toArray, List.set_cons_zero, List.set_cons_succ]
      refine but_take (f := 21) (i := 5) (v := ?vc5) rfl (by kernel_rfl) (by kernel_rfl) (by kernel_rfl) (by kernel_rfl) (by kernel_rfl) (fun _ _ _ h => h) (Or.inl ⟨(by rfl), ?hyc5⟩) hS0 ?restc5
      case hyc5 =>
        intro W hW
        obtain ⟨c0, c1, c2⟩ := HF.out.on hbb hW
        go_simp
        exact rfl
      simp only [List.getElem_toArray, List.getElem_cons_succ, List.getElem_cons_zero, Act.put, List.setIfInBounds_toArray, List.set_cons_zero, List.set_cons_succ]
      refine but_take (f := 21) (i := 6) (v := ?vc6) rfl (by kernel_rfl) (by kernel_rfl) (by kernel_rfl) (by kernel_rfl) (by kernel_rfl) (fun _ _ _ h => h) (Or.inl ⟨(by rfl), ?hyc6⟩) hS0 ?restc6
      case hyc6 =>
        intro W hW
        go_simp
        exact rfl
      simp only [List.getElem_toArray, List.getElem_cons_succ, List.getElem_cons_zero, Act.put, List.setIfInBounds_toArray, List.set_cons_zero, List.set_cons_succ]
      refine but_take (f := 21) (i := 7) (v := ?vc7) rfl (by kernel_rfl) (by kernel_rfl) (by kernel_rfl) (by kernel_rfl) (by kernel_rfl) (fun _ _ _ h => h) (Or.inl ⟨(by rfl), ?hyc7⟩) hS0 ?restc7
      case hyc7 =>
        intro W hW
        go_simp
        exact rfl
      simp only [List.getElem_toArray, List.getElem_cons_succ, List.getElem_cons_zero, Act.put, List.setIfInBounds_toArray, List.set_cons_zero, List.set_cons_succ]
      refine but_take (f := 21) (i := 8) (v := ?vc8) rfl (by kernel_rfl) (by kernel_rfl) (by kernel_rfl) (by kernel_rfl) (by kernel_rfl) (fun _ _ _ h => h) (Or.inl ⟨(by rfl), ?hyc8⟩) hS0 ?restc8
      case hyc8 =>
        intro W hW
        go_simp
        exact rfl
      simp only [List.getElem_toArray, List.getElem_cons_succ, List.getElem_cons_zero, Act.put, List.setIfInBounds_toArray, List.set_cons_zero, List.set_cons_succ]
      refine but_take (f := 21) (i := 9) (v := ?vc9) rfl (by kernel_rfl) (by kernel_rfl) (by kernel_rfl) (by kernel_rfl) (by kernel_rfl) (fun _ _ _ h => h) (Or.inl ⟨(by rfl), ?hyc9⟩) hS0 ?restc9
      case hyc9 =>
        intro W hW
        go_simp
        exact rfl
      simp only [List.getElem_toArray, List.getElem_cons_succ, List.getElem_cons_zero, Act.put, List.setIfInBounds_toArray, List.set_cons_zero, List.set_cons_succ]
      refine but_take (f := 21) (i := 10) (v := ?vc10) rfl (by kernel_rfl) (by kernel_rfl) (by kernel_rfl) (by kernel_rfl) (by kernel_rfl) (fun _ _ _ h => h) (Or.inl ⟨(by rfl), ?hyc10⟩) hS0 ?restc10
      case hyc10 =>
        intro W hW
        obtain ⟨c0, c1, c2⟩ := HF.out.on hbb hW
        go_simp
        exact rfl
      simp only [List.getElem_toArray, List.getElem_cons_succ, List.getElem_cons_zero, Act.put, List.setIfInBounds_toArray, List.set_cons_zero, List.set_cons_succ]
      refine but_take (f := 21) (i := 12) (v := ?vc12) rfl (by kernel_rfl) (by kernel_rfl) (by kernel_rfl) (by kernel_rfl) (by kernel_rfl) (fun _ _ _ h => h) (Or.inl ⟨(by rfl), ?hyc12⟩) hS0 ?restc12
      case hyc12 =>
        intro W hW
        go_simp
        exact rfl
      simp only [List.getElem_toArray, List.getElem_cons_succ, List.getElem_cons_zero, Act.put, List.setIfInBounds_toArray, List.set_cons_zero, List.set_cons_succ]
      refine but_take (f := 21) (i := 13) (v := ?vc13) rfl (by kernel_rfl) (by kernel_rfl) (by kernel_rfl) (by kernel_rfl) (by kernel_rfl) (fun _ _ _ h => h) (Or.inl ⟨(by rfl), ?hyc13⟩) hS0 ?restc13
      case hyc13 =>
        intro W hW
        go_simp
        exact rfl
      simp only [List.getElem_toArray, List.getElem_cons_succ, List.getElem_cons_zero, Act.put, List.setIfInBounds_toArray, List.set_cons_zero, List.set_cons_succ]
      refine but_take (f := 21) (i := 14) (v := ?vc14) rfl (by kernel_rfl) (by kernel_rfl) (by kernel_rfl) (by kernel_rfl) (by kernel_rfl) (fun _ _ _ h => h) (Or.inl ⟨(by rfl), ?hyc14⟩) hS0 ?restc14
      case hyc14 =>
        intro W hW
        go_simp
        exact rfl
      simp only [List.getElem_toArray, List.getElem_cons_succ, List.getElem_cons_zero, Act.put, List.setIfInBounds_toArray, List.set_cons_zero, List.set_cons_succ]
      refine but_take (f := 21) (i := 15) (v := ?vc15) rfl (by kernel_rfl) (by kernel_rfl) (by kernel_rfl) (by kernel_rfl) (by kernel_rfl) (fun _ _ _ h => h) (Or.inl ⟨(by rfl), ?hyc15⟩) hS0 ?restc15
      case hyc15 =>
        intro W hW
        go_simp
        exact rfl
      simp only [List.getElem_toArray, List.getElem_cons_succ, List.getElem_cons_zero, Act.put, List.setIfInBounds_toArray, List.set_cons_zero, List.set_cons_succ]
      refine but_take (f := 21) (i := 16) (v := ?vc16) rfl (by kernel_rfl) (by kernel_rfl) (by kernel_rfl) (by kernel_rfl) (by kernel_rfl) (fun _ _ _ h => h) (Or.inl ⟨(by rfl), ?hyc16⟩) hS0 ?restc16
      case hyc16 =>
        intro W hW
        obtain ⟨c0, c1, c2⟩ := HF.out.on hbb hW
        go_simp
        exact rfl
      simp only [List.getElem_toArray, List.getElem_cons_succ, List.getElem_cons_zero, Act.put, List.setIfInBounds_toArray, List.set_cons_zero, List.set_cons_succ]
      refine but_run (i := 11) (by kernel_rfl) rfl (by rfl) ?_
      simp only [List.getElem_toArray, List.getElem_cons_succ, List.getElem_cons_zero]
      intro K HK
      go_wp2_with fail
      have hSc1 : (fun V => Below w.heap.size w V) (Ud.alloc (.cells #[] 3)) := bstep hS0 (bal1 _ _)
      refine HK.out _ _ (fun _ => hSc1) ?_
      clear HK
      have hq11 : Below wr.heap.size wr (Ud.alloc (.cells #[] 3)) := bstep hUd (bal1 _ _)
      have R0 := Lib.hid (RowI.lit Ud)
      have HQ11 := Lib.hid hq11
      have hz11 : Ud.heap.size ≤ (Ud.alloc (.cells #[] 3)).heap.size := by simp
      generalize Ud.alloc (.cells #[] 3) = V11 at *
      have AT := Lib.hid (R1.out.on hSc1).ints_at
      refine but_run (i := 17) (by kernel_rfl) rfl (by rfl) ?_
      simp only [List.getElem_toArray, List.getElem_cons_succ, List.getElem_cons_zero]
      intro K HK
      refine operAppI _ (by rfl) (.tmp 23) (.tmp 28) (by rfl) Ud.heap.size _ [] (by rfl) R0.out A1 x.l.length d1 x.l (by rfl) (by rfl) AT.out (by simp; omega) hz11 ?_
      intro v17 Vc2 o17 b17
      rw [List.nil_append] at o17
      have hq17 : Below wr.heap.size wr Vc2 := HQ11.out.trans (Below.mono b17 hUz)
      have hz17 := hq17.size
      obtain ⟨A17, c17, hv17, _, _⟩ := o17.shape
      subst hv17
      have O17 := Lib.hid (o17.owns.mono (T := fun b => wr.heap.size ≤ b) (fun b hb => Nat.le_trans hUz hb)).lt
      have HQ17 := Lib.hid hq17
      have hSc2 : (fun V => Below w.heap.size w V) Vc2 := bstep HB.out HQ17.out
      refine HK.out _ _ (fun _ => hSc2) ?_
      clear HK
      clear o17 b17 hq17
      simp only [List.getElem_toArray, List.getElem_cons_succ, List.getElem_cons_zero, Act.put, List.setIfInBounds_toArray, List.set_cons_zero, List.set_cons_succ]
      refine but_take (f := 21) (i := 18) (v := ?vc18) rfl (by kernel_rfl) (by kernel_rfl) (by kernel_rfl) (by kernel_rfl) (by kernel_rfl) (fun _ _ _ h => h) (Or.inl ⟨(by rfl), ?hyc18⟩) hSc2 ?restc18
      case hyc18 =>
        intro W hW
        go_simp
        exact rfl
      simp only [List.getElem_toArray, List.getElem_cons_succ, List.getElem_cons_zero, Act.put, List.setIfInBounds_toArray, List.set_cons_zero, List.set_cons_succ]
      refine but_run (i := 19) (by kernel_rfl) rfl (by rfl) ?_
      simp only [List.getElem_toArray, List.getElem_cons_succ, List.getElem_cons_zero]
      intro K HK
      go_wp2_with fail
      have hSc3 : (fun V => Below w.heap.size w V) (Vc2.alloc (.cells #[.string x.a, .bool x.f, .slice A17 x.l.length c17] 53)) := bstep hSc2 (bal1 _ _)
      refine HK.out _ _ (fun _ => hSc3) ?_
      clear HK
      have AT3 := Lib.hid (At.lit3 Vc2 (.string x.a) (.bool x.f) (.slice A17 x.l.length c17) 53)
      have O19 := Lib.hid ((O17.out.on (bal1 Vc2 (.cells #[.string x.a, .bool x.f, .slice A17 x.l.length c17] 53))).lt)
      have HQ19 := Lib.hid (bstep HQ17.out (bal1 Vc2 (.cells #[.string x.a, .bool x.f, .slice A17 x.l.length c17] 53)))
      have hzl := Vc2.size_alloc (.cells #[.string x.a, .bool x.f, .slice A17 x.l.length c17] 53)
      generalize Vc2.alloc (.cells #[.string x.a, .bool x.f, .slice A17 x.l.length c17] 53) = V19 at *
      have hS19x := hSc3
      refine but_run (i := 20) (by kernel_rfl) rfl (by rfl) ?_
      simp only [List.getElem_toArray, List.getElem_cons_succ, List.getElem_cons_zero]
      intro K HK
      refine operAppM wr _ HQ19.out (by rfl) (.tmp 12) (.tmp 31) (by rfl) w.heap.size k _ (l.take k) (by rfl) HR.out hzw _ 1 x (.slice A17 x.l.length c17) (by rfl) AT3.out (O19.out.mono (fun b hb => ⟨hb.1.1, hb.2⟩)) (by omega) ?_
      intro v20 Vc4 o20 b20
      have O20 := Lib.hid o20
      have HQ20 := Lib.hid (hS19x.trans b20)
      have hSc4 : (fun V => Below w.heap.size w V) Vc4 := HQ20.out
      refine HK.out _ _ (fun _ => hSc4) ?_
      clear HK
      clear o20 b20
      simp only [List.getElem_toArray, List.getElem_cons_succ, List.getElem_cons_zero, Act.put, List.setIfInBounds_toArray, List.set_cons_zero, List.set_cons_succ]
      refine but_run (i := 21) (by kernel_rfl) rfl (by rfl) ?_
      simp only [List.getElem_toArray, List.getElem_cons_succ, List.getElem_cons_zero]
      intro K HK
      go_wp2_with fail
      refine HK.out _ _ (fun h => absurd rfl h) ?_
      clear HK
      refine but_done (by kernel_rfl) ?_
      clear HF R1
      go_wp2
      go_roundw
      case rel => exact ⟨k + 1, by omega, by go_num, by rw [HTK.out]; exact O20, HQ20⟩
      case measure => simp [intOf]; omega
    · have e : k = l.length := by omega
      subst e
      have HO := Lib.hid HR.out
      go_wp2
      go_ret
      refine ⟨_, rfl, ?_, HB.out⟩
      have h := HO.out
      rw [List.take_length] at h
      exact h.owns rfl
end Go.Proofs.Ytcimpcocgmlmoaa
