/- Contracts for spec.l12Code, impl.namedMap and MapKill of both sides. Conditions: at most 1100000 Maps, letters and blocks. -/
import Derived.Test.YtcimpcocgmlmoaaMapDo
namespace Go.Proofs.Ytcimpcocgmlmoaa
open Go.RowKit
set_option maxRecDepth 100000
set_option linter.unusedSimpArgs false
set_option linter.unusedVariables false

theorem At.pre {w : World} {A : Option Addr} {xs ys : List Value} (h : At w A (xs ++ ys)) : At w A xs := by
  rcases h with h | ⟨b, off, rfl, hc⟩
  · exact .inl (List.append_eq_nil_iff.1 h).1
  · exact .inr ⟨b, off, rfl, fun i hi => by rw [hc i (by rw [List.length_append]; omega)]; simp only [List.getElem_append_left hi]⟩
def cutA3 (A : Option Addr) (c j : Nat) : Option Addr := if c = j then A else A.map (fun a => a.add (j * 3))
theorem At.post {w : World} {A : Option Addr} {xs ys : List Value} (h : At w A (xs ++ ys)) {c j : Nat} (hx : xs.length = j * 3) (hc : c = j → ys = []) : At w (cutA3 A c j) ys := by
  unfold cutA3
  split
  · rename_i e
    rw [hc e]
    exact .inl rfl
  · rcases h with h | ⟨b, off, rfl, hcell⟩
    · exact .inl (List.append_eq_nil_iff.1 h).2
    · refine .inr ⟨b, off + j * 3, by rw [Option.map_some, Addr.add_lit], fun k hk => ?_⟩
      have h1 := hcell (j * 3 + k) (by rw [List.length_append]; omega)
      rw [Nat.add_assoc, h1]
      rw [List.getElem_append_right (by omega)]
      simp only [hx, Nat.add_sub_cancel_left]
theorem run_headM {w : World} (A : Option Addr) (n c j : Nat) (h1 : j ≤ n) (h2 : n ≤ c) : (Instr.slice 32 (.slice A n c) none (some (.int .i64 (j : Int))) none).run Try.prog w = .ok (.slice A j c) w := by
  obtain ⟨i, hi, h0, h3, h4⟩ := info_parts map_info
  have e1 : (0 : Int) ≤ (j : Int) := by omega
  have e2 : (j : Int) ≤ (n : Int) := by omega
  have e3 : (j : Int) ≤ (c : Int) := by omega
  simp [Instr.slice, Instr.sliceBounds, Instr.sliceBound, run_underlying Try.underlying32, sizeOf, typeInfo, hi, h3, e2, e3, go_sem]
  intro h; omega
theorem run_tailM {w : World} (A : Option Addr) (n c j : Nat) (h1 : j ≤ n) (h2 : n ≤ c) : (Instr.slice 32 (.slice A n c) (some (.int .i64 (j : Int))) none none).run Try.prog w = .ok (.slice (cutA3 A c j) (n - j) (c - j)) w := by
  obtain ⟨i, hi, h0, h3, h4⟩ := info_parts map_info
  have e1 : (0 : Int) ≤ (j : Int) := by omega
  have e2 : (j : Int) ≤ (n : Int) := by omega
  simp [Instr.slice, Instr.sliceBounds, Instr.sliceBound, run_underlying Try.underlying32, sizeOf, typeInfo, hi, h3, cutA3, e2, go_sem]
  intro h; omega
/-- A row of no element. -/
theorem Owns.mapsNil (w : World) (S : Nat → Prop) (g cap : Nat) (hS : S g) (h : Rw w g 53 3 0 cap []) (hc : cap ≤ maxLen) : Owns w S (.slice (some ⟨g, 0, none⟩) 0 cap) (mapsT 53 []) := Rw.maps (l := []) (us := []) h hS (Nat.zero_le _) hc (OwnsL.nil _ _)
def RowC (w : World) (base : Nat) (v : Value) (n : Nat) (xs : List Value) : Prop := w.ownsRow base 53 3 v n xs
theorem RowC.on {w w' : World} {base n : Nat} {v : Value} {xs : List Value} (h : RowC w base v n xs) (hb : Below w.heap.size w w') : RowC w' base v n xs := row_on h hb
theorem operAppR {o : Oper} {a : Act} {Kn : Act → World → Prop} {Q : Exit → Act → World → Prop} (w : World) (hgd : o.guard = none) (s x : Operand)
    (hop : o.op = .call { callee := .builtin .append, args := #[s, x], argTypes := #[32, 32] })
    (base n : Nat) (v : Value) (xs : List Value) (hs : a.eval s = v) (hr : RowC w base v n xs) (hbase : base ≤ w.heap.size) (A : Option Addr) (m c : Nat) (news : List Value) (hx : a.eval x = .slice A m c) (hl : news.length = m * 3) (hA : At w A news)
    (h1 : ∀ u ∈ news, u.oneCell' = true) (hlen : n + m ≤ 1073741824)
    (h : ∀ v' w', RowC w' base v' (n + m) (xs ++ news) → Below base w w' → True → True → Kn (a.put o.dst v') w') : Oper.wp Try.prog o a w Kn Q := by
  refine operAppW w hgd s x 32 53 3 48 (.agg #[.string ⟨#[]⟩, .bool false, .slice none 0 0]) hop Try.underlying32 map_info rfl (by omega) (by omega) base n v xs hs hr A m c news hx hl hA h1 hlen hbase ?_
  intro v' w' h2 h3 h4 h5
  exact h v' w' h2 ((Below.refl _ _).grown h3 hbase (fun k hk => (row_lt hr k hk).2)) trivial trivial
theorem codeM_cases (s : ByteArray) (l : List MapD) : (nameOkB s = false ∧ codeM s l = 1) ∨ (nameOkB s = true ∧ mapK s l < 0 ∧ codeM s l = 2) ∨ (nameOkB s = true ∧ ¬ mapK s l < 0 ∧ codeM s l = 0) := by
  unfold codeM
  cases h1 : nameOkB s
  · exact .inl ⟨rfl, rfl⟩
  · by_cases h2 : mapK s l < 0
    · exact .inr (.inl ⟨rfl, h2, by simp [h2]⟩)
    · exact .inr (.inr ⟨rfl, h2, by simp [h2]⟩)
theorem codeM_zero {s : ByteArray} {l : List MapD} (h : codeM s l = 0) : mapK s l = (mapJ s l : Int) ∧ mapJ s l < l.length := by
  rcases codeM_cases s l with ⟨_, h1⟩ | ⟨_, _, h1⟩ | ⟨_, h2, _⟩
  · omega
  · omega
  · exact mapK_pos h2
theorem l12Code_any {t : TypeId} (va : Value) (l : List MapD) (w : World) (hv : Reads w w.heap.size va (mapsT t l)) (hs : SmallM l) (s : ByteArray) (hz : s.size ≤ maxLen) : Calls Try.prog 59 #[va, .string s] w fun e w' => e = .returned (.int .i64 (codeM s l)) ∧ Below w.heap.size w w' := by
  have HA := Lib.hid (fun (W : World) (b : Below w.heap.size w W) => specMapAt_any _ l s W (hv.on b) hs)
  have HN := Lib.hid (fun (W : World) => sameB (specNameOk_any s W hz))
  obtain ⟨A, c, rfl, _, _⟩ := Reads.lenN hv
  have BB := Lib.hid (Below.refl w.heap.size w)
  rcases codeM_cases s l with ⟨h1, h2⟩ | ⟨h1, h3, h2⟩ | ⟨h1, h3, h2⟩
  · rw [h1] at HN
    rw [h2]
    clear hv h1 h2 HA
    go_enter Try.func59, Try.ntmps59
    go_wp2_with fail
    refine (HN.out _).mono ?_
    rintro r w1 ⟨rfl, b⟩
    have z1 := b.size
    replace BB := Lib.hid (bstep BB.out b)
    clear b
    go_wp2
    go_ret
    exact ⟨rfl, BB.out⟩
  · rw [h1] at HN
    rw [h2]
    generalize mapK s l = K at *
    clear hv h1 h2
    go_enter Try.func59, Try.ntmps59
    go_wp2_with fail
    refine (HN.out _).mono ?_
    rintro r w1 ⟨rfl, b⟩
    have z1 := b.size
    replace BB := Lib.hid (bstep BB.out b)
    clear b
    go_wp2_with fail
    refine (HA.out _ BB.out).mono ?_
    rintro r w2 ⟨rfl, b⟩
    have z2 := b.size
    replace BB := Lib.hid (bstep BB.out b)
    clear b
    go_wp2
    go_ret
    exact ⟨rfl, BB.out⟩
  · rw [h1] at HN
    rw [h2]
    generalize mapK s l = K at *
    clear hv h1 h2
    go_enter Try.func59, Try.ntmps59
    go_wp2_with fail
    refine (HN.out _).mono ?_
    rintro r w1 ⟨rfl, b⟩
    have z1 := b.size
    replace BB := Lib.hid (bstep BB.out b)
    clear b
    go_wp2_with fail
    refine (HA.out _ BB.out).mono ?_
    rintro r w2 ⟨rfl, b⟩
    have z2 := b.size
    replace BB := Lib.hid (bstep BB.out b)
    clear b
    go_wp2
    go_ret
    exact ⟨rfl, BB.out⟩
theorem namedMap_any {t : TypeId} (va : Value) (l : List MapD) (w : World) (hv : Reads w w.heap.size va (mapsT t l)) (hs : SmallM l) (s : ByteArray) (hz : s.size ≤ maxLen) : Calls Try.prog 60 #[va, .string s] w fun e w' => e = .returned (.tuple #[.int .i64 (if codeM s l = 0 then mapK s l else 0), .int .i64 (codeM s l)]) ∧ Below w.heap.size w w' := by
  have HA := Lib.hid (fun (W : World) (b : Below w.heap.size w W) => implMapAt_any _ l s W (hv.on b) hs)
  have HN := Lib.hid (fun (W : World) => sameB (implNameOk_any s W hz))
  obtain ⟨A, c, rfl, _, _⟩ := Reads.lenN hv
  have BB := Lib.hid (Below.refl w.heap.size w)
  rcases codeM_cases s l with ⟨h1, h2⟩ | ⟨h1, h3, h2⟩ | ⟨h1, h3, h2⟩
  · rw [h1] at HN
    rw [h2]
    clear hv h1 h2
    go_enter Try.func60, Try.ntmps60
    go_wp2_with fail
    refine (HA.out _ BB.out).mono ?_
    rintro r w1 ⟨rfl, b⟩
    have z1 := b.size
    replace BB := Lib.hid (bstep BB.out b)
    clear b
    go_wp2_with fail
    refine (HN.out _).mono ?_
    rintro r w2 ⟨rfl, b⟩
    have z2 := b.size
    replace BB := Lib.hid (bstep BB.out b)
    clear b
    go_wp2
    go_ret2
    exact ⟨rfl, BB.out⟩
  · rw [h1] at HN
    rw [h2]
    generalize mapK s l = K at *
    clear hv h1 h2
    go_enter Try.func60, Try.ntmps60
    go_wp2_with fail
    refine (HA.out _ BB.out).mono ?_
    rintro r w1 ⟨rfl, b⟩
    have z1 := b.size
    replace BB := Lib.hid (bstep BB.out b)
    clear b
    go_wp2_with fail
    refine (HN.out _).mono ?_
    rintro r w2 ⟨rfl, b⟩
    have z2 := b.size
    replace BB := Lib.hid (bstep BB.out b)
    clear b
    go_wp2
    go_ret2
    exact ⟨rfl, BB.out⟩
  · rw [h1] at HN
    rw [h2]
    generalize mapK s l = K at *
    clear hv h1 h2
    go_enter Try.func60, Try.ntmps60
    go_wp2_with fail
    refine (HA.out _ BB.out).mono ?_
    rintro r w1 ⟨rfl, b⟩
    have z1 := b.size
    replace BB := Lib.hid (bstep BB.out b)
    clear b
    go_wp2_with fail
    refine (HN.out _).mono ?_
    rintro r w2 ⟨rfl, b⟩
    have z2 := b.size
    replace BB := Lib.hid (bstep BB.out b)
    clear b
    go_wp2
    go_ret2
    exact ⟨rfl, BB.out⟩
set_option maxHeartbeats 4000000 in
theorem implMapKill_any {t : TypeId} (va : Value) (l : List MapD) (w : World) (hv : Reads w w.heap.size va (mapsT t l)) (hs : SmallM l) (s : ByteArray) (hz : s.size ≤ maxLen) : Calls Try.prog 29 #[va, .string s] w (NewMC w (killM s l)) := by
  have HC := Lib.hid (fun (W : World) (b : Below w.heap.size w W) => copyMapsX_any _ l W (hv.on b) hs)
  have HN := Lib.hid (fun (W : World) (b : Below w.heap.size w W) => namedMap_any _ l W (hv.on b) hs s hz)
  obtain ⟨A, c, rfl, _, _⟩ := Reads.lenN hv
  have hln : l.length ≤ 1100000 := hs.1
  have BB := Lib.hid (Below.refl w.heap.size w)
  by_cases h1 : codeM s l = 0
  · obtain ⟨hK, hJ⟩ := codeM_zero h1
    have HR : Hid (killM s l = (l.eraseIdx (mapJ s l), 0)) := Lib.hid (by unfold killM; rw [if_pos h1])
    rw [h1, if_pos rfl, hK] at HN
    generalize killM s l = R at *
    generalize mapJ s l = J at *
    have HJ := Lib.hid hJ
    have i1 : (J : Int) + 1 ≤ (l.length : Int) := by omega
    clear hv hs h1 hK
    go_enter Try.func29, Try.ntmps29
    go_wp2_with fail
    refine (HC.out _ BB.out).mono ?_
    rintro r w1 ⟨us, rfl, o1, b1⟩
    have O1 := Lib.hid o1
    replace BB := Lib.hid (bstep BB.out b1)
    clear o1 b1
    go_wp2_with fail
    refine (HN.out _ BB.out).mono ?_
    rintro r w2 ⟨rfl, b2⟩
    have hz1 := b2.size
    replace BB := Lib.hid (bstep BB.out b2)
    replace O1 := Lib.hid (O1.out.on b2)
    clear b2
    go_wp2_with fail
    refine (deleteM_any w.heap.size l.length J l us _ O1.out.1 O1.out.2.1 (mapI_ones O1.out.2.2.2.reads) (Nat.le_refl _) (by unfold maxLen; omega) HJ.out hln).mono ?_
    rintro r w3 ⟨rfl, h3, g3⟩
    have H3 := Lib.hid h3
    have G3 := Lib.hid g3
    clear h3 g3
    go_wp2
    go_ret2
    refine ⟨_, by rw [HR.out] <;> rfl, ?_, BB.out.trans (G3.out.below BB.out.size (fun b hb => by subst hb; exact Nat.le_refl _))⟩
    rw [HR.out]
    have hle := List.length_eraseIdx_of_lt HJ.out
    have hoo := (O1.out.2.2.2.far G3.out (fun b hb _ => hb.2)).erase J
    have hrr : Rw w3 w.heap.size 53 3 (l.eraseIdx J).length l.length (mvl (l.eraseIdx J) (us.eraseIdx J)) := by rw [hle]; exact H3.out
    have hh := Rw.maps (S := fun b => w.heap.size ≤ b) hrr (Nat.le_refl _) (by omega) (by unfold maxLen; omega) hoo
    rw [hle] at hh
    exact hh
  · have HR : Hid (killM s l = (l, codeM s l)) := Lib.hid (by unfold killM; rw [if_neg h1])
    rw [if_neg h1] at HN
    generalize killM s l = R at *
    generalize codeM s l = C at *
    have d1 : (C != 0) = true := by simp [h1]
    clear hv hs
    go_enter Try.func29, Try.ntmps29
    go_wp2_with fail
    refine (HC.out _ BB.out).mono ?_
    rintro r w1 ⟨us, rfl, o1, b1⟩
    have O1 := Lib.hid o1
    replace BB := Lib.hid (bstep BB.out b1)
    clear o1 b1
    go_wp2_with fail
    refine (HN.out _ BB.out).mono ?_
    rintro r w2 ⟨rfl, b2⟩
    replace BB := Lib.hid (bstep BB.out b2)
    replace O1 := Lib.hid (O1.out.on b2)
    clear b2
    go_wp2
    go_ret2
    exact ⟨_, by rw [HR.out] <;> rfl, by rw [HR.out]; exact Rw.maps (S := fun b => w.heap.size ≤ b) O1.out.1 O1.out.2.2.1 (Nat.le_refl _) (by unfold maxLen; omega) O1.out.2.2.2, BB.out⟩
set_option maxHeartbeats 8000000 in
theorem specMapKill_any {t : TypeId} (va : Value) (l : List MapD) (w : World) (hv : Reads w w.heap.size va (mapsT t l)) (hs : SmallM l) (s : ByteArray) (hz : s.size ≤ maxLen) : Calls Try.prog 28 #[va, .string s] w (NewMC w (killM s l)) := by
  have HC := Lib.hid (fun (W : World) (b : Below w.heap.size w W) => l12Copy_any _ l W (hv.on b) hs)
  have HN := Lib.hid (fun (W : World) (b : Below w.heap.size w W) => l12Code_any _ l W (hv.on b) hs s hz)
  have HA := Lib.hid (fun (W : World) (b : Below w.heap.size w W) => specMapAt_any _ l s W (hv.on b) hs)
  obtain ⟨A, c, rfl, _, _⟩ := Reads.lenN hv
  have hln : l.length ≤ 1100000 := hs.1
  have BB := Lib.hid (Below.refl w.heap.size w)
  by_cases h1 : codeM s l = 0
  · obtain ⟨hK, hJ⟩ := codeM_zero h1
    have HR : Hid (killM s l = (l.eraseIdx (mapJ s l), 0)) := Lib.hid (by unfold killM; rw [if_pos h1])
    rw [h1] at HN
    rw [hK] at HA
    generalize killM s l = R at *
    generalize mapJ s l = J at *
    have HJ := Lib.hid hJ
    have hw : IntKind.i64.wrap ((J : Int) + 1) = (J : Int) + 1 := by rw [IntKind.wrap_i64]; omega
    clear hv hs h1 hK
    go_enter Try.func28, Try.ntmps28
    go_wp2_with fail
    refine (HC.out _ BB.out).mono ?_
    rintro r w1 ⟨v1, rfl, o1, b1⟩
    have hO := Owns.maps o1
    rcases hO with ⟨_, h0⟩ | ⟨g, cap, us, rfl, hg, hR, hc, hmx, hu, ho⟩
    · rw [h0] at hJ
      simp at hJ
    have CM : Hid (Rw w1 g 53 3 l.length cap (mvl l us) ∧ us.length = l.length ∧ OwnsL w1 (fun b => w.heap.size ≤ b ∧ b ≠ g) us (l.map mapI)) := Lib.hid ⟨hR, hu, ho⟩
    have hzz := BB.out.size
    replace BB := Lib.hid (bstep BB.out b1)
    clear o1 b1 hR hu ho
    go_wp2_with fail
    refine (HN.out _ BB.out).mono ?_
    rintro r w2 ⟨rfl, b2⟩
    replace BB := Lib.hid (bstep BB.out b2)
    replace CM := Lib.hid (And.intro (CM.out.1.keep (b2.block g (Rw.lt CM.out.1))) (And.intro CM.out.2.1 (CM.out.2.2.on b2)))
    clear b2
    go_wp2_with fail
    refine (HA.out _ BB.out).mono ?_
    rintro r w3 ⟨rfl, b3⟩
    replace BB := Lib.hid (bstep BB.out b3)
    replace CM := Lib.hid (And.intro (CM.out.1.keep (b3.block g (Rw.lt CM.out.1))) (And.intro CM.out.2.1 (CM.out.2.2.on b3)))
    clear b3
    have hz3 := BB.out.size
    have hgw := Rw.lt CM.out.1
    have hat : At w3 (some ⟨g, 0, none⟩) (mvl l us) := .inr ⟨g, 0, rfl, fun i hi => by rw [Nat.zero_add]; exact Rw.cell CM.out.1 hi⟩
    rw [mvl_split CM.out.2.1 J] at hat
    have AT1 := Lib.hid hat.pre
    have hat2 : At w3 (some ⟨g, 0, none⟩) (mvl l us) := .inr ⟨g, 0, rfl, fun i hi => by rw [Nat.zero_add]; exact Rw.cell CM.out.1 hi⟩
    rw [mvl_split CM.out.2.1 (J + 1)] at hat2
    have hp2 := At.post (c := cap) (j := J + 1) hat2 (by rw [mvl_len (by simp [CM.out.2.1])]; simp; omega) (fun e => by rw [List.drop_eq_nil_of_le (by omega)]; rfl)
    unfold cutA3 at hp2
    rw [Option.map_some, Addr.add_lit, Nat.zero_add] at hp2
    have AT2 := Lib.hid hp2
    have j1 : (0 : Int) ≤ (J : Int) + 1 := by omega
    have j2 : (J : Int) + 1 ≤ (l.length : Int) := by omega
    have HL1 : Hid ((mvl (l.take J) (us.take J)).length = J * 3) := Lib.hid (by rw [mvl_len (by simp [CM.out.2.1])]; simp; omega)
    have HL2 : Hid ((mvl (l.drop (J + 1)) (us.drop (J + 1))).length = (l.length - (J + 1)) * 3) := Lib.hid (by rw [mvl_len (by simp [CM.out.2.1])]; simp)
    have hone := mapI_ones CM.out.2.2.reads
    have HO1 : Hid (∀ u ∈ mvl (l.take J) (us.take J), u.oneCell' = true) := Lib.hid (mvl_cells (fun u hu => hone u (List.mem_of_mem_take hu)))
    have HO2 : Hid (∀ u ∈ mvl (l.drop (J + 1)) (us.drop (J + 1)), u.oneCell' = true) := Lib.hid (mvl_cells (fun u hu => hone u (List.mem_of_mem_drop hu)))
    have HM : Hid (mvl (l.take J) (us.take J) ++ mvl (l.drop (J + 1)) (us.drop (J + 1)) = mvl (l.eraseIdx J) (us.eraseIdx J)) := Lib.hid (by rw [List.eraseIdx_eq_take_drop_succ, List.eraseIdx_eq_take_drop_succ, mvl_append (by simp [CM.out.2.1])])
    have HSL1 := Lib.hid (fun W : World => run_headM (w := W) (some ⟨g, 0, none⟩) l.length cap J (by omega) hc)
    have HSL2 := Lib.hid (fun W : World => run_tailM (w := W) (some ⟨g, 0, none⟩) l.length cap (J + 1) (by omega) hc)
    obtain ⟨X1, hX1⟩ : ∃ X1, mvl (l.take J) (us.take J) = X1 := ⟨_, rfl⟩
    obtain ⟨X2, hX2⟩ : ∃ X2, mvl (l.drop (J + 1)) (us.drop (J + 1)) = X2 := ⟨_, rfl⟩
    rw [hX1] at AT1 HL1 HO1 HM
    rw [hX2] at AT2 HL2 HO2 HM
    clear hat hat2 hone hX1 hX2 HA HN HC hp2 HSL2
    by_cases hcj : cap = J + 1
    · subst hcj
      rw [if_pos rfl] at AT2
      replace HL2 : Hid (X2.length = 0 * 3) := Lib.hid (by have := HL2.out; omega)
      go_upto_region 6 with (fail)
      refine but_begin (f := 11) (S := fun V => Below w3.heap.size w3 V) (by kernel_rfl) ?_
      have hS0c : Below w3.heap.size w3 w3.drew := Below.drew1 _
      have hz0c : w3.heap.size ≤ w3.drew.heap.size := Nat.le_refl _
      generalize w3.drew = Udc at *
      refine but_take (f := 11) (i := 1) (v := ?vc1) rfl (by kernel_rfl) (by kernel_rfl) (by kernel_rfl) (by kernel_rfl) (by kernel_rfl) (fun _ _ _ h => h) (Or.inl ⟨(by rfl), ?hyc1⟩) hS0c ?restc1
      case hyc1 =>
        intro W hW
        go_simp
        exact rfl
      simp only [List.getElem_toArray, List.getElem_cons_succ, List.getElem_cons_zero, Act.put, List.setIfInBounds_toArray, List.set_cons_zero, List.set_cons_succ]
      refine but_take (f := 11) (i := 2) (v := ?vc2) rfl (by kernel_rfl) (by kernel_rfl) (by kernel_rfl) (by kernel_rfl) (by kernel_rfl) (fun _ _ _ h => h) (Or.inl ⟨(by rfl), ?hyc2⟩) hS0c ?restc2
      case hyc2 =>
        intro W hW
        go_simp
        exact rfl
      simp only [List.getElem_toArray, List.getElem_cons_succ, List.getElem_cons_zero, Act.put, List.setIfInBounds_toArray, List.set_cons_zero, List.set_cons_succ]
      refine but_take (f := 11) (i := 3) (v := ?vc3) rfl (by kernel_rfl) (by kernel_rfl) (by kernel_rfl) (by kernel_rfl) (by kernel_rfl) (fun _ _ _ h => h) (Or.inl ⟨(by rfl), ?hyc3⟩) hS0c ?restc3
      case hyc3 =>
        intro W hW
        have hsl1 := HSL1.out W
        go_simp
        exact rfl
      simp only [List.getElem_toArray, List.getElem_cons_succ, List.getElem_cons_zero, Act.put, List.setIfInBounds_toArray, List.set_cons_zero, List.set_cons_succ]
      refine but_take (f := 11) (i := 5) (v := ?vc5) rfl (by kernel_rfl) (by kernel_rfl) (by kernel_rfl) (by kernel_rfl) (by kernel_rfl) (fun _ _ _ h => h) (Or.inl ⟨(by rfl), ?hyc5⟩) hS0c ?restc5
      case hyc5 =>
        intro W hW
        go_simp
        exact rfl
      simp only [List.getElem_toArray, List.getElem_cons_succ, List.getElem_cons_zero, Act.put, List.setIfInBounds_toArray, List.set_cons_zero, List.set_cons_succ]
      refine but_take (f := 11) (i := 6) (v := ?vc6) rfl (by kernel_rfl) (by kernel_rfl) (by kernel_rfl) (by kernel_rfl) (by kernel_rfl) (fun _ _ _ h => h) (Or.inl ⟨(by rfl), ?hyc6⟩) hS0c ?restc6
      case hyc6 =>
        intro W hW
        go_simp
        exact rfl
      simp only [List.getElem_toArray, List.getElem_cons_succ, List.getElem_cons_zero, Act.put, List.setIfInBounds_toArray, List.set_cons_zero, List.set_cons_succ]
      refine but_take (f := 11) (i := 7) (v := ?vc7) rfl (by kernel_rfl) (by kernel_rfl) (by kernel_rfl) (by kernel_rfl) (by kernel_rfl) (fun _ _ _ h => h) (Or.inl ⟨(by rfl), ?hyc7⟩) hS0c ?restc7
      case hyc7 =>
        intro W hW
        go_simp
        exact rfl
      simp only [List.getElem_toArray, List.getElem_cons_succ, List.getElem_cons_zero, Act.put, List.setIfInBounds_toArray, List.set_cons_zero, List.set_cons_succ]
      refine but_take (f := 11) (i := 8) (v := ?vc8) rfl (by kernel_rfl) (by kernel_rfl) (by kernel_rfl) (by kernel_rfl) (by kernel_rfl) (fun _ _ _ h => h) (Or.inl ⟨(by rfl), ?hyc8⟩) hS0c ?restc8
      case hyc8 =>
        intro W hW
        have hsl1 := HSL1.out W
        go_simp
        exact rfl
      simp only [List.getElem_toArray, List.getElem_cons_succ, List.getElem_cons_zero, Act.put, List.setIfInBounds_toArray, List.set_cons_zero, List.set_cons_succ]
      refine but_run (i := 0) (by kernel_rfl) rfl (by rfl) ?_
      simp only [List.getElem_toArray, List.getElem_cons_succ, List.getElem_cons_zero]
      intro K HK
      go_wp2_with fail
      have hSc1 : (fun V => Below w3.heap.size w3 V) (Udc.alloc (.cells #[] 53)) := bstep hS0c (bal1 _ _)
      refine HK.out _ _ (fun _ => hSc1) ?_
      clear HK
      have hBc1 := bal1 Udc (.cells #[] 53)
      have hzc1 : Udc.heap.size + 1 ≤ (Udc.alloc (.cells #[] 53)).heap.size := by simp
      have hzac1 := (hS0c).size
      have R0 : Hid (RowC (Udc.alloc (.cells #[] 53)) Udc.heap.size (.slice (some ⟨Udc.heap.size, 0, none⟩) 0 0) 0 []) := Lib.hid (row_lit Udc 53 3)
      generalize Udc.alloc (.cells #[] 53) = Vnc1 at *
      refine but_run (i := 4) (by kernel_rfl) rfl (by rfl) ?_
      simp only [List.getElem_toArray, List.getElem_cons_succ, List.getElem_cons_zero]
      intro K HK
      refine operAppR _ (by rfl) (.tmp 21) (.tmp 24) (by rfl) Udc.heap.size 0 _ [] (by rfl) R0.out (by omega) (some ⟨g, 0, none⟩) J (J + 1) X1 (by rfl) HL1.out (AT1.out.on hSc1) HO1.out (by omega) ?_
      intro vc2 Vc2 oc2 bc2 gc2 ac2
      rw [List.nil_append, Nat.zero_add] at oc2
      obtain ⟨G4, e4, hG4⟩ := row_form oc2
      subst hG4
      have R1 := Lib.hid oc2
      have hSc2 : (fun V => Below w3.heap.size w3 V) Vc2 := (hSc1).trans (Below.mono bc2 (by omega))
      refine HK.out _ _ (fun _ => hSc2) ?_
      clear HK
      have hzc2 := bc2.size
      simp only [List.getElem_toArray, List.getElem_cons_succ, List.getElem_cons_zero, Act.put, List.setIfInBounds_toArray, List.set_cons_zero, List.set_cons_succ]
      refine but_run (i := 9) (by kernel_rfl) rfl (by rfl) ?_
      simp only [List.getElem_toArray, List.getElem_cons_succ, List.getElem_cons_zero]
      intro K HK
      refine operAppR _ (by rfl) (.tmp 25) (.tmp 29) (by rfl) Udc.heap.size J _ X1 (by rfl) R1.out (by omega) (some ⟨g, 0, none⟩) 0 0 X2 (by rfl) HL2.out (AT2.out.on hSc2) HO2.out (by omega) ?_
      intro vc3 Vc3 oc3 bc3 gc3 ac3
      rw [HM.out] at oc3
      obtain ⟨G5, e5, hG5⟩ := row_form oc3
      subst hG5
      have R2 := Lib.hid oc3
      have hSc3 : (fun V => Below w3.heap.size w3 V) Vc3 := (hSc2).trans (Below.mono bc3 (by omega))
      refine HK.out _ _ (fun _ => hSc3) ?_
      clear HK
      have hzc3 := bc3.size
      simp only [List.getElem_toArray, List.getElem_cons_succ, List.getElem_cons_zero, Act.put, List.setIfInBounds_toArray, List.set_cons_zero, List.set_cons_succ]
      refine but_run (i := 10) (by kernel_rfl) rfl (by rfl) ?_
      simp only [List.getElem_toArray, List.getElem_cons_succ, List.getElem_cons_zero]
      intro K HK
      go_wp2_with fail
      have hSc4 : (fun V => Below w3.heap.size w3 V) (Vc3) := hSc3
      refine HK.out _ _ (fun _ => hSc4) ?_
      clear HK
      refine but_run (i := 11) (by kernel_rfl) rfl (by rfl) ?_
      simp only [List.getElem_toArray, List.getElem_cons_succ, List.getElem_cons_zero]
      intro K HK
      go_wp2_with fail
      refine HK.out _ _ (fun h => absurd rfl h) ?_
      clear HK
      refine but_done (by kernel_rfl) ?_
      have hS9 := hSc4
      go_wp2
      go_ret2
      refine ⟨_, by rw [HR.out] <;> rfl, ?_, bstep BB.out hS9⟩
      rw [HR.out]
      have hle := List.length_eraseIdx_of_lt HJ.out
      have hoo := ((CM.out.2.2.lt.on hS9).erase J)
      have hne : J + 0 = l.length - 1 := by omega
      rcases row_cases R2.out with ⟨hq0, _, h0⟩ | ⟨gq, cq, hq, hbq, hRq, hnq, hcq, _⟩
      · have h8 := congrArg List.length h0
        rw [mvl_len (by rw [hle, List.length_eraseIdx_of_lt (by rw [CM.out.2.1]; exact HJ.out), CM.out.2.1]), hle] at h8
        simp only [List.length_nil] at h8
        have h9 : l.eraseIdx J = [] := List.length_eq_zero_iff.1 (by rw [hle]; omega)
        rw [h9]
        show Owns _ _ (.slice G5 (J + 0) e5) (mapsT 53 [])
        rw [hq0]
        exact .nil _ _ _
      · have hrr : Rw (Vc3) gq 53 3 (l.eraseIdx J).length cq (mvl (l.eraseIdx J) (us.eraseIdx J)) := by rw [hle, ← hne]; exact hRq
        have hh := Rw.maps (S := fun b => w.heap.size ≤ b) hrr (by omega) (by rw [hle, ← hne]; exact hnq) hcq (hoo.mono (fun b hb => ⟨hb.1.1, fun e => by have := hb.2; omega⟩))
        rw [hle, ← hne] at hh
        show Owns _ _ (.slice G5 (J + 0) e5) (mapsT 53 (l.eraseIdx J))
        rw [hq]
        exact hh
    · rw [if_neg hcj] at AT2
      go_upto_region 6 with (fail)
      refine but_begin (f := 11) (S := fun V => Below w3.heap.size w3 V) (by kernel_rfl) ?_
      have hS0e : Below w3.heap.size w3 w3.drew := Below.drew1 _
      have hz0e : w3.heap.size ≤ w3.drew.heap.size := Nat.le_refl _
      generalize w3.drew = Ude at *
      refine but_take (f := 11) (i := 1) (v := ?ve1) rfl (by kernel_rfl) (by kernel_rfl) (by kernel_rfl) (by kernel_rfl) (by kernel_rfl) (fun _ _ _ h => h) (Or.inl ⟨(by rfl), ?hye1⟩) hS0e ?reste1
      case hye1 =>
        intro W hW
        go_simp
        exact rfl
      simp only [List.getElem_toArray, List.getElem_cons_succ, List.getElem_cons_zero, Act.put, List.setIfInBounds_toArray, List.set_cons_zero, List.set_cons_succ]
      refine but_take (f := 11) (i := 2) (v := ?ve2) rfl (by kernel_rfl) (by kernel_rfl) (by kernel_rfl) (by kernel_rfl) (by kernel_rfl) (fun _ _ _ h => h) (Or.inl ⟨(by rfl), ?hye2⟩) hS0e ?reste2
      case hye2 =>
        intro W hW
        go_simp
        exact rfl
      simp only [List.getElem_toArray, List.getElem_cons_succ, List.getElem_cons_zero, Act.put, List.setIfInBounds_toArray, List.set_cons_zero, List.set_cons_succ]
      refine but_take (f := 11) (i := 3) (v := ?ve3) rfl (by kernel_rfl) (by kernel_rfl) (by kernel_rfl) (by kernel_rfl) (by kernel_rfl) (fun _ _ _ h => h) (Or.inl ⟨(by rfl), ?hye3⟩) hS0e ?reste3
      case hye3 =>
        intro W hW
        have hsl1 := HSL1.out W
        go_simp
        exact rfl
      simp only [List.getElem_toArray, List.getElem_cons_succ, List.getElem_cons_zero, Act.put, List.setIfInBounds_toArray, List.set_cons_zero, List.set_cons_succ]
      refine but_take (f := 11) (i := 5) (v := ?ve5) rfl (by kernel_rfl) (by kernel_rfl) (by kernel_rfl) (by kernel_rfl) (by kernel_rfl) (fun _ _ _ h => h) (Or.inl ⟨(by rfl), ?hye5⟩) hS0e ?reste5
      case hye5 =>
        intro W hW
        go_simp
        exact rfl
      simp only [List.getElem_toArray, List.getElem_cons_succ, List.getElem_cons_zero, Act.put, List.setIfInBounds_toArray, List.set_cons_zero, List.set_cons_succ]
      refine but_take (f := 11) (i := 6) (v := ?ve6) rfl (by kernel_rfl) (by kernel_rfl) (by kernel_rfl) (by kernel_rfl) (by kernel_rfl) (fun _ _ _ h => h) (Or.inl ⟨(by rfl), ?hye6⟩) hS0e ?reste6
      case hye6 =>
        intro W hW
        go_simp
        exact rfl
      simp only [List.getElem_toArray, List.getElem_cons_succ, List.getElem_cons_zero, Act.put, List.setIfInBounds_toArray, List.set_cons_zero, List.set_cons_succ]
      refine but_take (f := 11) (i := 7) (v := ?ve7) rfl (by kernel_rfl) (by kernel_rfl) (by kernel_rfl) (by kernel_rfl) (by kernel_rfl) (fun _ _ _ h => h) (Or.inl ⟨(by rfl), ?hye7⟩) hS0e ?reste7
      case hye7 =>
        intro W hW
        go_simp
        exact rfl
      simp only [List.getElem_toArray, List.getElem_cons_succ, List.getElem_cons_zero, Act.put, List.setIfInBounds_toArray, List.set_cons_zero, List.set_cons_succ]
      refine but_take (f := 11) (i := 8) (v := ?ve8) rfl (by kernel_rfl) (by kernel_rfl) (by kernel_rfl) (by kernel_rfl) (by kernel_rfl) (fun _ _ _ h => h) (Or.inl ⟨(by rfl), ?hye8⟩) hS0e ?reste8
      case hye8 =>
        intro W hW
        have hsl1 := HSL1.out W
        go_simp
        exact rfl
      simp only [List.getElem_toArray, List.getElem_cons_succ, List.getElem_cons_zero, Act.put, List.setIfInBounds_toArray, List.set_cons_zero, List.set_cons_succ]
      refine but_run (i := 0) (by kernel_rfl) rfl (by rfl) ?_
      simp only [List.getElem_toArray, List.getElem_cons_succ, List.getElem_cons_zero]
      intro K HK
      go_wp2_with fail
      have hSe1 : (fun V => Below w3.heap.size w3 V) (Ude.alloc (.cells #[] 53)) := bstep hS0e (bal1 _ _)
      refine HK.out _ _ (fun _ => hSe1) ?_
      clear HK
      have hBe1 := bal1 Ude (.cells #[] 53)
      have hze1 : Ude.heap.size + 1 ≤ (Ude.alloc (.cells #[] 53)).heap.size := by simp
      have hzae1 := (hS0e).size
      have R0 : Hid (RowC (Ude.alloc (.cells #[] 53)) Ude.heap.size (.slice (some ⟨Ude.heap.size, 0, none⟩) 0 0) 0 []) := Lib.hid (row_lit Ude 53 3)
      generalize Ude.alloc (.cells #[] 53) = Vne1 at *
      refine but_run (i := 4) (by kernel_rfl) rfl (by rfl) ?_
      simp only [List.getElem_toArray, List.getElem_cons_succ, List.getElem_cons_zero]
      intro K HK
      refine operAppR _ (by rfl) (.tmp 21) (.tmp 24) (by rfl) Ude.heap.size 0 _ [] (by rfl) R0.out (by omega) (some ⟨g, 0, none⟩) J cap X1 (by rfl) HL1.out (AT1.out.on hSe1) HO1.out (by omega) ?_
      intro ve2 Ve2 oe2 be2 ge2 ae2
      rw [List.nil_append, Nat.zero_add] at oe2
      obtain ⟨G4, e4, hG4⟩ := row_form oe2
      subst hG4
      have R1 := Lib.hid oe2
      have hSe2 : (fun V => Below w3.heap.size w3 V) Ve2 := (hSe1).trans (Below.mono be2 (by omega))
      refine HK.out _ _ (fun _ => hSe2) ?_
      clear HK
      have hze2 := be2.size
      simp only [List.getElem_toArray, List.getElem_cons_succ, List.getElem_cons_zero, Act.put, List.setIfInBounds_toArray, List.set_cons_zero, List.set_cons_succ]
      refine but_run (i := 9) (by kernel_rfl) rfl (by rfl) ?_
      simp only [List.getElem_toArray, List.getElem_cons_succ, List.getElem_cons_zero]
      intro K HK
      refine operAppR _ (by rfl) (.tmp 25) (.tmp 29) (by rfl) Ude.heap.size J _ X1 (by rfl) R1.out (by omega) (some ⟨g, (J + 1) * 3, none⟩) (l.length - (J + 1)) (cap - (J + 1)) X2 (by rfl) HL2.out (AT2.out.on hSe2) HO2.out (by omega) ?_
      intro ve3 Ve3 oe3 be3 ge3 ae3
      rw [HM.out] at oe3
      obtain ⟨G5, e5, hG5⟩ := row_form oe3
      subst hG5
      have R2 := Lib.hid oe3
      have hSe3 : (fun V => Below w3.heap.size w3 V) Ve3 := (hSe2).trans (Below.mono be3 (by omega))
      refine HK.out _ _ (fun _ => hSe3) ?_
      clear HK
      have hze3 := be3.size
      simp only [List.getElem_toArray, List.getElem_cons_succ, List.getElem_cons_zero, Act.put, List.setIfInBounds_toArray, List.set_cons_zero, List.set_cons_succ]
      refine but_run (i := 10) (by kernel_rfl) rfl (by rfl) ?_
      simp only [List.getElem_toArray, List.getElem_cons_succ, List.getElem_cons_zero]
      intro K HK
      go_wp2_with fail
      have hSe4 : (fun V => Below w3.heap.size w3 V) (Ve3) := hSe3
      refine HK.out _ _ (fun _ => hSe4) ?_
      clear HK
      refine but_run (i := 11) (by kernel_rfl) rfl (by rfl) ?_
      simp only [List.getElem_toArray, List.getElem_cons_succ, List.getElem_cons_zero]
      intro K HK
      go_wp2_with fail
      refine HK.out _ _ (fun h => absurd rfl h) ?_
      clear HK
      refine but_done (by kernel_rfl) ?_
      have hS9 := hSe4
      go_wp2
      go_ret2
      refine ⟨_, by rw [HR.out] <;> rfl, ?_, bstep BB.out hS9⟩
      rw [HR.out]
      have hle := List.length_eraseIdx_of_lt HJ.out
      have hoo := ((CM.out.2.2.lt.on hS9).erase J)
      have hne : J + (l.length - (J + 1)) = l.length - 1 := by omega
      rcases row_cases R2.out with ⟨hq0, _, h0⟩ | ⟨gq, cq, hq, hbq, hRq, hnq, hcq, _⟩
      · have h8 := congrArg List.length h0
        rw [mvl_len (by rw [hle, List.length_eraseIdx_of_lt (by rw [CM.out.2.1]; exact HJ.out), CM.out.2.1]), hle] at h8
        simp only [List.length_nil] at h8
        have h9 : l.eraseIdx J = [] := List.length_eq_zero_iff.1 (by rw [hle]; omega)
        rw [h9]
        show Owns _ _ (.slice G5 (J + (l.length - (J + 1))) e5) (mapsT 53 [])
        rw [hq0]
        exact .nil _ _ _
      · have hrr : Rw (Ve3) gq 53 3 (l.eraseIdx J).length cq (mvl (l.eraseIdx J) (us.eraseIdx J)) := by rw [hle, ← hne]; exact hRq
        have hh := Rw.maps (S := fun b => w.heap.size ≤ b) hrr (by omega) (by rw [hle, ← hne]; exact hnq) hcq (hoo.mono (fun b hb => ⟨hb.1.1, fun e => by have := hb.2; omega⟩))
        rw [hle, ← hne] at hh
        show Owns _ _ (.slice G5 (J + (l.length - (J + 1))) e5) (mapsT 53 (l.eraseIdx J))
        rw [hq]
        exact hh
  · have HR : Hid (killM s l = (l, codeM s l)) := Lib.hid (by unfold killM; rw [if_neg h1])
    generalize killM s l = R at *
    generalize codeM s l = C at *
    have d1 : (C != 0) = true := by simp [h1]
    clear hv hs HA
    go_enter Try.func28, Try.ntmps28
    go_wp2_with fail
    refine (HC.out _ BB.out).mono ?_
    rintro r w1 ⟨vC, rfl, o, b⟩
    have zC := b.size
    replace BB := Lib.hid (bstep BB.out b)
    have OC := Lib.hid o.ownR
    clear o b
    go_wp2_with fail
    refine (HN.out _ BB.out).mono ?_
    rintro r w2 ⟨rfl, b⟩
    have z2 := b.size
    replace OC := Lib.hid (OC.out.on b)
    replace BB := Lib.hid (bstep BB.out b)
    clear b
    go_wp2
    go_ret2
    exact ⟨_, by rw [HR.out] <;> rfl, by rw [HR.out]; exact OC.out.mono (fun b hb => by omega), BB.out⟩
end Go.Proofs.Ytcimpcocgmlmoaa
