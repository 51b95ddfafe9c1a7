/- The contract for slices.Insert at Maps: one Map into a row without room. Conditions: at most 1100000 Maps, letters and blocks. -/
import Derived.Test.YtcimpcocgmlmoaaMapPut
import Derived.Deep.RegionLaw
import Derived.Lib.SliceRun
import Derived.Lib.AppendZerosOnto
namespace Go.Proofs.Ytcimpcocgmlmoaa
open Go.RowKit
set_option maxRecDepth 100000
set_option linter.unusedSimpArgs false
set_option linter.unusedVariables false

theorem step_copyAny {P : Program} {ops : Array Oper} {o : Oper} {a : Act} {w : World} {K : Act → World → Prop} {Q : Exit → Act → World → Prop} {E : Prop} (hgd : o.guard = none) (d s : Operand) (dT sT : TypeId)
    (ho : o.op = .call { callee := .builtin .copy, args := #[d, s], argTypes := #[dT, sT] }) (elem : TypeId) (z : Nat) (hu : P.underlying dT = some (.slice elem)) (hsz : (P.info? elem).map (·.size) = some z)
    (dp sp : Option Addr) (dLen dCap sLen sCap n : Nat) (hd : a.eval d = .slice dp dLen dCap) (hs : a.eval s = .slice sp sLen sCap) (hm : Nat.min sLen dLen = n)
    (g off : Nat) (cur : Array Value) (t : TypeId) (hg : w.heap[g]? = some (.cells cur t (0, 0))) (cs : List Value) (hn : cs.length = n * z)
    (hpos : 0 < n → dp = some ⟨g, off, none⟩ ∧ ∃ ad, sp = some ad ∧ ∀ j v, cs[j]? = some v → w.cell? (ad.add j) = some v)
    (hfit : off + cs.length ≤ cur.size) (h1 : ∀ v ∈ cs, v.oneCell' = true)
    (h : ∀ w', w'.heap[g]? = some (.cells (layA cur off cs) t (0, 0)) → (∀ B w0, Below B w0 w → B ≤ g → Below B w0 w') → (∀ k, k ≠ g → w'.heap[k]? = w.heap[k]?) → K (a.put o.dst (goInt n)) w') : if Region.wanted o (yielded ops a.tmps) = true then Oper.wp P o a w K Q else E := by
  have hw : Region.wanted o (yielded ops a.tmps) = true := by simp [Region.wanted, hgd]
  rw [if_pos hw]
  rcases Nat.eq_zero_or_pos n with h0 | h0
  · subst h0
    have : cs = [] := List.length_eq_zero_iff.1 (by simpa using hn)
    subst this
    have hrun := run_copyZero (P := P) w dT sT o.type elem z dp sp dLen dCap sLen sCap hu hsz hm
    unfold Oper.wp
    simp [execOp, ho, resolve, invoke, builtin, hd, hs, hrun, Result.andThen]
    exact h w hg (fun _ _ hb _ => hb) (fun _ _ => rfl)
  · obtain ⟨rfl, ad, rfl, hsrc⟩ := hpos h0
    have hrun := run_copyAny (P := P) w dT sT o.type elem z g off n dLen dCap ad sLen sCap cs hu hsz hm hn hsrc (fun j hj => by
      rw [cell_of_row w g _ cur _ (0, 0) hg, Array.getElem?_eq_getElem (by omega)]; rfl) (fun j hj => frozen_of_row w g _ cur t hg) h1
    unfold Oper.wp
    simp [execOp, ho, resolve, invoke, builtin, hd, hs, hrun, Result.andThen]
    exact h _ (heap_lay g t cs w cur off hg) (fun B w0 hb hB => below_lay hB cs w0 w off hb) (fun k hk => lay_other cs w off k hk)
theorem wpList_zerosM {P : Program} {ops : Array Oper} {rest : List Oper} {o : Oper} {a : Act} {Q : Exit → Act → World → Prop} (w : World) (hgd : o.guard = none) (s x : Operand) (t tn : Nat)
    (hop : o.op = .call { callee := .builtin .append, args := #[s, x], argTypes := #[t, tn] }) (v u v' : Value) (w' : World) (hs : a.eval s = v) (hx : a.eval x = u) (hrun : ∀ ty, (Builtin.append_ #[t, tn] ty #[v, u]).run P w = .ok v' w')
    (h : wpList P ops Q rest (a.put o.dst v') w') : wpList P ops Q (o :: rest) a w := by
  refine wpList_plain hgd fun K hK => ?_
  unfold Oper.wp execOp
  simp only [hop, resolve, invoke, builtin, Sem.run_bind, Sem.run_pure, Result.andThen_ok, List.map_toArray, List.map_cons, List.map_nil, hs, hx, hrun]
  exact hK _ _ h
/-- What slices.Insert leaves: a row with one Map more; the other Maps' blocks are the call's own as before. -/
def InsM (w : World) (base : Nat) (l : List MapD) (us : List Value) (p : Nat) (m : MapD) (um : Value) (e : Ending) (w' : World) : Prop :=
  ∃ v', e = .returned v' ∧ w'.ownsRow base 53 3 v' (l.length + 1) (mvl (insM l p m) (us.take p ++ um :: us.drop p)) ∧ OwnsL w' (Tof base v') us (l.map mapI) ∧ Below base w w'
set_option maxHeartbeats 4000000 in
theorem insertEnd_any (g n vb base : Nat) (l : List MapD) (us : List Value) (m : MapD) (um : Value) (w : World) (hR : Rw w g 53 3 n n (mvl l us)) (hu : us.length = l.length) (hl : l.length = n) (hb : base ≤ g) (ho : OwnsL w (fun b => base ≤ b ∧ b ≠ g) us (l.map mapI))
    (hv : w.heap[vb]? = some (.cells #[.string m.a, .bool m.f, um] 53 (0, 0))) (hum : um.oneCell' = true) (hn : n ≤ 1100000) :
    Calls Try.prog 69 #[.slice (some ⟨g, 0, none⟩) n n, .int .i64 (n : Int), .slice (some ⟨vb, 0, none⟩) 1 1] w (InsM w base l us n m um) := by
  have hgw := Rw.lt hR
  have hru : RowU w base (.slice (some ⟨g, 0, none⟩) n n) l us := ⟨by subst hl; exact hR.row hb (Nat.le_refl _) (by unfold maxLen; omega) (mvl_len hu), hu, ho.mono (fun b hb => ⟨hb.1, fun e => hb.2 (by simp [Value.ownBlock] at e; exact e.symm)⟩)⟩
  have hA : At w (some ⟨vb, 0, none⟩) [.string m.a, .bool m.f, um] := by
    refine .inr ⟨vb, 0, rfl, fun i hi => ?_⟩
    rw [cell_of_row _ _ _ _ _ _ hv]
    match i, hi with
    | 0, _ => rfl
    | 1, _ => rfl
    | 2, _ => rfl
  have HRU := Lib.hid hru
  have HA := Lib.hid hA
  have HL := Lib.hid hl
  have h1 : Hid (∀ y ∈ [Value.string m.a, .bool m.f, um], y.oneCell' = true) := Lib.hid (by
    intro y hy
    simp at hy
    rcases hy with rfl | rfl | rfl
    · rfl
    · rfl
    · exact hum)
  have n0 : (0 : Int) ≤ (n : Int) := by omega
  have e1 : ((n : Int) == (n : Int)) = true := by simp
  clear hR hu hl ho hv hru hA
  go_enter Try.func69, Try.ntmps69
  go_wp2_with (at_builtin; refine wpList_appV _ rfl (.tmp 23) (.tmp 24) 32 53 3 48 (.agg #[.string ⟨#[]⟩, .bool false, .slice none 0 0]) rfl Try.underlying32 map_info rfl (by omega) (by omega) base n _ (mvl l us) rfl (by have := HRU.out.1; rw [HL.out] at this; exact this) (some ⟨vb, 0, none⟩) 1 1 [.string m.a, .bool m.f, um] rfl rfl HA.out h1.out (by omega) (by omega) ?_; intro v1 w1 o1 g1 _ a1)
  have hx : RowX w1 base v1 l m us um := RowX.of HRU.out (by omega) (by rw [HL.out]; exact o1) g1 a1
  have HX := Lib.hid hx
  have HB := Lib.hid ((Below.refl base w).grown g1 (by omega) (fun k hk => (row_lt HRU.out.1 k hk).2))
  clear o1 g1 a1 hx
  go_ret
  obtain ⟨x1, x2, x3⟩ := HX.out
  refine ⟨v1, rfl, ?_, x3, HB.out⟩
  have e2 := put_end l m
  have e3 := put_end us um
  rw [x2, HL.out] at e3
  rw [HL.out] at e2
  unfold insM
  rw [e2, e3]
  exact x1
set_option maxHeartbeats 8000000 in
theorem insertMid_any (g n p vb base : Nat) (l : List MapD) (us : List Value) (m : MapD) (um : Value) (w : World) (hR : Rw w g 53 3 n n (mvl l us)) (hu : us.length = l.length) (hl : l.length = n) (hb : base ≤ g) (ho : OwnsL w (fun b => base ≤ b ∧ b ≠ g) us (l.map mapI))
    (hv : w.heap[vb]? = some (.cells #[.string m.a, .bool m.f, um] 53 (0, 0))) (hum : um.oneCell' = true) (hp : p < n) (hn : n ≤ 1100000) :
    Calls Try.prog 69 #[.slice (some ⟨g, 0, none⟩) n n, .int .i64 (p : Int), .slice (some ⟨vb, 0, none⟩) 1 1] w (InsM w base l us p m um) := by
  have hgw := Rw.lt hR
  have hvw : vb < w.heap.size := (Array.getElem?_eq_some_iff.1 hv).1
  obtain ⟨i0, hi0, hz0, hzs, hzb⟩ := info_parts map_info
  obtain ⟨cs, hcs⟩ : ∃ cs, cs = mvl l us := ⟨_, rfl⟩
  have hcl : cs.length = n * 3 := by rw [hcs, mvl_len hu, hl]
  have hcell : ∀ j v, cs[j]? = some v → w.cell? ⟨g, j, none⟩ = some v := by
    intro j v hj
    rw [hcs] at hj
    obtain ⟨h1, h2⟩ := List.getElem?_eq_some_iff.1 hj
    rw [Rw.cell hR h1, h2]
  have hone : ∀ u ∈ cs, u.oneCell' = true := by rw [hcs]; exact mvl_cells (mapI_ones ho.reads)
  have hik : p + (n + 1 - p) = n + 1 := by omega
  have hkk : (n : Int) + 1 - (p : Int) = ((n + 1 - p : Nat) : Int) := by omega
  have hold : (Builtin.firstCells i0.size p (.slice (some ⟨g, 0, none⟩) p n)).run Try.prog w.drew = .ok (cs.take (p * 3)).toArray w.drew := by
    rw [hzs]
    exact run_firstCells_some w.drew 3 p ⟨g, 0, none⟩ p n (cs.take (p * 3)) (by rw [List.length_take]; omega) (fun j v hj => by
      rw [Addr.add_lit]
      rw [List.getElem?_take] at hj
      split at hj
      · rw [Nat.zero_add]; exact hcell j v hj
      · cases hj)
  have hrz : ∀ ty, (Builtin.append_ #[32, 3] ty #[.slice (some ⟨g, 0, none⟩) p n, .int .i64 ((n : Int) + 1 - (p : Int))]).run Try.prog w =
      .ok (.slice (some ⟨w.heap.size, 0, none⟩) (n + 1) (grownCap w (n + 1) n 53)) (w.drew.alloc (.cells ((cs.take (p * 3)).toArray ++ Builtin.zeroCells (Value.agg #[.string ⟨#[]⟩, .bool false, .slice none 0 0]).cells (n + 1 - p) ++ Builtin.zeroCells (Value.agg #[.string ⟨#[]⟩, .bool false, .slice none 0 0]).cells (grownCap w (n + 1) n 53 - (n + 1))) 53)) := fun ty => by
    have h := Lib.run_append_grow_zeros w 32 3 ty 53 i0 _ .i64 .i64 Try.underlying32 Try.underlying3 hi0 hz0 (some ⟨g, 0, none⟩) p n (cs.take (p * 3)) hold (n + 1 - p) (by omega) (by omega) (by omega) (by omega) (by rw [hzb]; omega) (by rw [hzb, hik]; exact growslice_fits (by omega) (by omega))
    rw [hik] at h
    rw [hkk]
    exact h
  have hG1 : n + 1 ≤ grownCap w (n + 1) n 53 := grownCap_ge w _ _ _
  have hG2 : grownCap w (n + 1) n 53 ≤ maxLen := grownCap_le_maxLen w (n + 1) n _ (by unfold maxLen; omega)
  obtain ⟨G, hG⟩ : ∃ G, G = grownCap w (n + 1) n 53 := ⟨_, rfl⟩
  rw [← hG] at hrz hG1 hG2
  obtain ⟨ROW, hROW⟩ : ∃ ROW : Array Value, ROW = (cs.take (p * 3)).toArray ++ Builtin.zeroCells (Value.agg #[.string ⟨#[]⟩, .bool false, .slice none 0 0]).cells (n + 1 - p) ++ Builtin.zeroCells (Value.agg #[.string ⟨#[]⟩, .bool false, .slice none 0 0]).cells (G - (n + 1)) := ⟨_, rfl⟩
  rw [← hROW] at hrz
  have hRs : ROW.size = G * 3 := by
    rw [hROW, Array.size_append, Array.size_append, size_zeroCells, size_zeroCells, List.size_toArray, List.length_take]
    have e3 : (Value.agg #[.string ⟨#[]⟩, .bool false, .slice none 0 0]).cells.size = 3 := rfl
    rw [e3]
    omega
  have hRt : ROW.toList.take (p * 3) = cs.take (p * 3) := by
    rw [hROW, Array.append_assoc, Array.toList_append, List.take_append_of_le_length (by simp; omega), List.toList_toArray, List.take_take, Nat.min_self]
  obtain ⟨W1, hW1⟩ : ∃ W1, W1 = w.drew.alloc (.cells ROW 53) := ⟨_, rfl⟩
  rw [← hW1] at hrz
  have hH1 : W1.heap[w.heap.size]? = some (.cells ROW 53 (0, 0)) := by rw [hW1]; exact heap_alloc_new w.drew _
  have hB1 : Below w.heap.size w W1 := by rw [hW1]; exact (Below.refl _ _).drew.alloc (Nat.le_refl _) _
  have hnv : vb ≠ w.heap.size := by omega
  have hng : g ≠ w.heap.size := by omega
  have hV1 := box_on hv hB1
  have HM1 : Hid (Nat.min 1 (n + 1 - p) = 1) := Lib.hid (by simp only [Nat.min_def]; split <;> omega)
  have HP1 : Hid (0 < 1 → (some ⟨w.heap.size, p * 3, none⟩ : Option Addr) = some ⟨w.heap.size, p * 3, none⟩ ∧ ∃ ad, (some ⟨vb, 0, none⟩ : Option Addr) = some ad ∧ ∀ j v, ([.string m.a, .bool m.f, um] : List Value)[j]? = some v → W1.cell? (ad.add j) = some v) := Lib.hid (fun _ => ⟨rfl, _, rfl, fun j v hj => by
    rw [Addr.add_lit, Nat.zero_add, cell_of_row _ _ _ _ _ _ hV1]
    match j, hj with
    | 0, hj => simpa using hj
    | 1, hj => simpa using hj
    | 2, hj => simpa using hj
    | j + 3, hj => simp at hj⟩)
  have HF1 : Hid (p * 3 + ([.string m.a, .bool m.f, um] : List Value).length ≤ ROW.size) := Lib.hid (by rw [hRs]; simp; omega)
  have HO1 : Hid (∀ y ∈ ([.string m.a, .bool m.f, um] : List Value), y.oneCell' = true) := Lib.hid (by
    intro y hy
    simp at hy
    rcases hy with rfl | rfl | rfl
    · rfl
    · rfl
    · exact hum)
  obtain ⟨R2, hR2⟩ : ∃ R2, R2 = layA ROW (p * 3) [.string m.a, .bool m.f, um] := ⟨_, rfl⟩
  have hR2s : R2.size = G * 3 := by rw [hR2, layA_size]; exact hRs
  obtain ⟨ds, hds⟩ : ∃ ds, ds = cs.drop (p * 3) := ⟨_, rfl⟩
  have hdl : ds.length = (n - p) * 3 := by rw [hds, List.length_drop, hcl]; omega
  have HM2 : Hid (Nat.min (n - p) (n + 1 - (p + 1)) = n - p) := Lib.hid (by simp only [Nat.min_def]; split <;> omega)
  have HP2 : Hid (∀ W : World, (∀ j, W.cell? ⟨g, j, none⟩ = w.cell? ⟨g, j, none⟩) → 0 < n - p → (some ⟨w.heap.size, (p + 1) * 3, none⟩ : Option Addr) = some ⟨w.heap.size, (p + 1) * 3, none⟩ ∧ ∃ ad, (some ⟨g, p * 3, none⟩ : Option Addr) = some ad ∧ ∀ j v, ds[j]? = some v → W.cell? (ad.add j) = some v) := Lib.hid (fun W hW _ => ⟨rfl, _, rfl, fun j v hj => by
    rw [Addr.add_lit, hW]
    rw [hds, List.getElem?_drop] at hj
    exact hcell _ v hj⟩)
  have HD2 := Lib.hid hdl
  have HF2 : Hid ((p + 1) * 3 + ds.length ≤ R2.size) := Lib.hid (by rw [hR2s, hdl]; omega)
  have HO2 : Hid (∀ y ∈ ds, y.oneCell' = true) := Lib.hid (by rw [hds]; exact fun y hy => hone y (List.mem_of_mem_drop hy))
  have HE2 := Lib.hid hR2
  have HEND : Hid ((layA R2 ((p + 1) * 3) ds).toList.take ((n + 1) * 3) = mvl (insM l p m) (us.take p ++ um :: us.drop p)) := Lib.hid (by
    have hup : (us.take p).length = (l.take p).length := by simp; omega
    have hsplit : cs = mvl (l.take p) (us.take p) ++ mvl (l.drop p) (us.drop p) := by
      rw [hcs, ← mvl_append hup, List.take_append_drop, List.take_append_drop]
    have hl1 : (mvl (l.take p) (us.take p)).length = p * 3 := by rw [mvl_len hup]; simp; omega
    have hct : cs.take (p * 3) = mvl (l.take p) (us.take p) := by rw [hsplit, ← hl1, List.take_left']; rfl
    have hcd : ds = mvl (l.drop p) (us.drop p) := by rw [hds, hsplit, ← hl1, List.drop_left']; rfl
    rw [layA_list _ _ _ HF2.out, hR2, layA_list _ _ _ HF1.out, hRt]
    unfold insM
    rw [mvl_append hup, mvl_cons, hct, ← hcd]
    have h3 : (mvl (l.take p) (us.take p) ++ ([.string m.a, .bool m.f, um] ++ ROW.toList.drop (p * 3 + ([.string m.a, .bool m.f, um] : List Value).length))).take ((p + 1) * 3) = mvl (l.take p) (us.take p) ++ [.string m.a, .bool m.f, um] := by
      rw [← List.append_assoc, List.take_append_of_le_length (by simp [hl1]; omega), List.take_of_length_le (by simp [hl1]; omega)]
    rw [h3, ← List.append_assoc, List.take_append_of_le_length (by simp [hl1, hdl]; omega), List.take_of_length_le (by simp [hl1, hdl]; omega)]
    simp)
  have HSZ : Hid ((layA R2 ((p + 1) * 3) ds).size = G * 3) := Lib.hid (by rw [layA_size]; exact hR2s)
  have HH1 := Lib.hid hH1
  have HB1 := Lib.hid hB1
  have HO := Lib.hid ho
  have HLN := Lib.hid hl
  have HUL := Lib.hid hu
  have HGX := Lib.hid hG2
  have j0 : ¬ ((p : Int) = (n : Int)) := by omega
  have j1 : (n : Int) < (n : Int) + 1 := by omega
  have j2 : (0 : Int) ≤ (p : Int) := by omega
  have j3 : (p : Int) ≤ (n : Int) := by omega
  have j4 : ¬ (G = p) := by omega
  have j5 : ¬ (G = p + 1) := by omega
  have j6 : ¬ (n = p) := by omega
  have j7 : IntKind.i64.wrap ((p : Int) + 1) = (p : Int) + 1 := by rw [IntKind.wrap_i64]; omega
  have j8 : ((p : Int) + 1).toNat = p + 1 := by omega
  have j9 : (0 : Int) ≤ (p : Int) + 1 := by omega
  have j10 : (p : Int) + 1 ≤ (n : Int) + 1 := by omega
  have j11 : (p : Int) ≤ (n : Int) + 1 := by omega
  have j12 : p ≤ n := by omega
  have j13 : p ≤ n + 1 := by omega
  have j14 : p + 1 ≤ n + 1 := by omega
  have j15 : n + 1 ≤ G := hG1
  have j16 : (n : Int) + 1 ≤ (G : Int) := by omega
  clear hkk hik hold hROW hRs hRt hG hR2 hR2s hdl hds hW1 hH1 hB1 hV1 hv hcell hcl hcs hone ho hl hu hR hi0 hz0 hzs hzb hG2 hG1
  go_enter Try.func69, Try.ntmps69
  go_upto_region 10 with (first | (at_builtin; refine wpList_zerosM _ rfl (.tmp 34) (.tmp 39) 32 3 rfl _ _ _ _ rfl rfl hrz ?_) | fail)
  clear hrz
  go_upto_region 11 with (refine wpList_copyAny rfl (.tmp 43) (.tmp 44) 32 32 rfl 53 3 Try.underlying32 (by kernel_rfl) _ _ _ _ _ _ 1 rfl rfl HM1.out w.heap.size (p * 3) ROW 53 HH1.out [.string m.a, .bool m.f, um] rfl HP1.out HF1.out HO1.out ?_; intro w2 h2 b2 k2)
  rw [← HE2.out] at h2
  have HH2 := Lib.hid h2
  have HB2 := Lib.hid (b2 _ _ HB1.out (Nat.le_refl _))
  have HP3 : Hid (0 < n - p → (some ⟨w.heap.size, (p + 1) * 3, none⟩ : Option Addr) = some ⟨w.heap.size, (p + 1) * 3, none⟩ ∧ ∃ ad, (some ⟨g, p * 3, none⟩ : Option Addr) = some ad ∧ ∀ j v, ds[j]? = some v → w2.drew.cell? (ad.add j) = some v) := Lib.hid (HP2.out w2.drew (fun j => HB2.out.cell (p := ⟨g, j, none⟩) hgw))
  have HB3 : Hid (Below w.heap.size w w2.drew) := Lib.hid (bstep HB2.out (Below.drew1 _))
  have HH3 : Hid (w2.drew.heap[w.heap.size]? = some (.cells R2 53 (0, 0))) := Lib.hid h2
  clear h2 b2 k2 HP2 HP1 HM1 HF1 HO1 HH1
  go_region_law (refine step_copyAny rfl (.tmp 50) (.tmp 53) 32 32 rfl 53 3 Try.underlying32 (by kernel_rfl) (some ⟨w.heap.size, (p + 1) * 3, none⟩) (some ⟨g, p * 3, none⟩) (n + 1 - (p + 1)) (G - (p + 1)) (n - p) (n - p) (n - p) (by simp [Act.eval, Act.put]) (by simp [Act.eval, Act.put]) HM2.out w.heap.size ((p + 1) * 3) R2 53 HH3.out ds HD2.out HP3.out HF2.out HO2.out ?_; intro w4 h4 b4 k4; have HH4 := Lib.hid h4; have HB4 := Lib.hid (b4 _ _ HB3.out (Nat.le_refl _)); clear h4 b4 k4)
  go_wp2
  go_ret
  refine ⟨.slice (some ⟨w.heap.size, 0, none⟩) (n + 1) G, rfl, ⟨by rw [mvl_len (by rw [insM_len _ _ _ (by rw [HLN.out]; exact j12), put_len (by rw [HUL.out, HLN.out]; exact j12), HUL.out]), insM_len _ _ _ (by rw [HLN.out]; exact j12)], .inr ⟨w.heap.size, G, _, by rw [HLN.out], by omega, HH4.out, by rw [HLN.out]; exact j15, HGX.out, HSZ.out, by rw [HLN.out]; exact HEND.out⟩⟩, ?_, HB4.out.mono (by omega)⟩
  exact (HO.out.lt.on HB4.out).mono (fun b hb => ⟨hb.1.1, fun e => by simp [Value.ownBlock] at e; have := hb.2; omega⟩)
end Go.Proofs.Ytcimpcocgmlmoaa
