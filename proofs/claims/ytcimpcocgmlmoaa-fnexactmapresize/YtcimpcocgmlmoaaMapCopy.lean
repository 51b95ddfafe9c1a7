/- The builtin copy at elements of any size; contracts for impl.resized and impl.copyMaps. Conditions: at most 1100000 Maps, letters and blocks. -/
import Derived.Test.YtcimpcocgmlmoaaMapFind
import Derived.Test.YtcimpcocgmlmoaaLay
import Derived.Laws.CopyRow
import Derived.Laws.IdiomCopy
namespace Go.Proofs.Ytcimpcocgmlmoaa
open Go.RowKit
set_option maxRecDepth 100000
set_option linter.unusedSimpArgs false
set_option linter.unusedVariables false

theorem lay_other {g : Nat} (vs : List Value) : ∀ (w : World) (o k : Nat), k ≠ g → (w.setCells g o vs).heap[k]? = w.heap[k]? := by
  induction vs with
  | nil => intro w o k h; rfl
  | cons v r ih => intro w o k h; exact (ih _ _ k h).trans (Below.heap_setCell _ _ _ _ (by simpa using h))
theorem run_copyAny {P : Program} (w : World) (dT sT ty elem : TypeId) (z b o n dLen dCap : Nat) (a : Addr) (sLen sCap : Nat) (cs : List Value)
    (hu : P.underlying dT = some (.slice elem)) (hs : (P.info? elem).map (·.size) = some z) (hm : Nat.min sLen dLen = n) (hn : cs.length = n * z)
    (hsrc : ∀ j v, cs[j]? = some v → w.cell? (a.add j) = some v) (hc : ∀ j, j < cs.length → (w.cell? ⟨b, o + j, none⟩).isSome = true) (hf : ∀ j, j < cs.length → w.frozen? ⟨b, o + j, none⟩ = false) (h1 : ∀ v ∈ cs, v.oneCell' = true) :
    (Builtin.copy_ #[dT, sT] ty #[.slice (some ⟨b, o, none⟩) dLen dCap, .slice (some a) sLen sCap]).run P w = .ok (goInt n) (w.setCells b o cs) := by
  have hl := run_loadCells_list (P := P) w a cs hsrc
  have hst := run_storeCells_cells (P := P) b o cs 0 w (by simpa using hc) (by simpa using hf) h1
  have hm2 : min sLen dLen = n := hm
  cases hq : P.info? elem with
  | none => simp [hq] at hs
  | some i =>
    have hi : i.size = z := by simpa [hq] using hs
    simp [Builtin.copy_, run_underlying hu, Builtin.lenOf, Builtin.firstCells, sizeOf, typeInfo, hq, hi, hm, ← hn, hl, hst]
theorem run_copyZero {P : Program} (w : World) (dT sT ty elem : TypeId) (z : Nat) (d a : Option Addr) (dLen dCap sLen sCap : Nat) (hu : P.underlying dT = some (.slice elem)) (hs : (P.info? elem).map (·.size) = some z) (hn : Nat.min sLen dLen = 0) :
    (Builtin.copy_ #[dT, sT] ty #[.slice d dLen dCap, .slice a sLen sCap]).run P w = .ok (goInt 0) w := by
  cases hq : P.info? elem with
  | none => simp [hq] at hs
  | some i =>
    have hl : ∀ (x : Addr), (loadCells x 0).run P w = .ok #[] w := fun x => by simpa using run_loadCells_list (P := P) w x [] (by simp)
    cases d <;> cases a <;> simp [Builtin.copy_, run_underlying hu, Builtin.lenOf, Builtin.firstCells, sizeOf, typeInfo, hq, hn, storeCells, hl]
/-- copy into a row that is known whole, at any place of it, from any slice. -/
theorem wpList_copyAny {P : Program} {w : World} {ops : Array Oper} {rest : List Oper} {o : Oper} {a : Act} {Q : Exit → Act → World → Prop} (hgd : o.guard = none) (d s : Operand) (dT sT : TypeId)
    (ho : o.op = .call { callee := .builtin .copy, args := #[d, s], argTypes := #[dT, sT] }) (elem : TypeId) (z : Nat) (hu : P.underlying dT = some (.slice elem)) (hsz : (P.info? elem).map (·.size) = some z)
    (dp sp : Option Addr) (dLen dCap sLen sCap n : Nat) (hd : a.eval d = .slice dp dLen dCap) (hs : a.eval s = .slice sp sLen sCap) (hm : Nat.min sLen dLen = n)
    (g off : Nat) (cur : Array Value) (t : TypeId) (hg : w.heap[g]? = some (.cells cur t (0, 0))) (cs : List Value) (hn : cs.length = n * z)
    (hpos : 0 < n → dp = some ⟨g, off, none⟩ ∧ ∃ ad, sp = some ad ∧ ∀ j v, cs[j]? = some v → w.cell? (ad.add j) = some v)
    (hfit : off + cs.length ≤ cur.size) (h1 : ∀ v ∈ cs, v.oneCell' = true)
    (h : ∀ w', w'.heap[g]? = some (.cells (layA cur off cs) t (0, 0)) → (∀ B w0, Below B w0 w → B ≤ g → Below B w0 w') → (∀ k, k ≠ g → w'.heap[k]? = w.heap[k]?) → wpList P ops Q rest (a.put o.dst (goInt n)) w') : wpList P ops Q (o :: rest) a w := by
  rcases Nat.eq_zero_or_pos n with h0 | h0
  · subst h0
    have : cs = [] := List.length_eq_zero_iff.1 (by simpa using hn)
    subst this
    refine wpList_plain hgd fun K hK => ?_
    have hrun := run_copyZero (P := P) w dT sT o.type elem z dp sp dLen dCap sLen sCap hu hsz hm
    unfold Oper.wp
    simp [execOp, ho, resolve, invoke, builtin, hd, hs, hrun, Result.andThen]
    exact hK _ _ (h w hg (fun _ _ hb _ => hb) (fun _ _ => rfl))
  · obtain ⟨rfl, ad, rfl, hsrc⟩ := hpos h0
    refine wpList_plain hgd fun K hK => ?_
    have hrun := run_copyAny (P := P) w dT sT o.type elem z g off n dLen dCap ad sLen sCap cs hu hsz hm hn hsrc (fun j hj => by
      rw [cell_of_row w g _ cur _ (0, 0) hg, Array.getElem?_eq_getElem (by omega)]; rfl) (fun j hj => frozen_of_row w g _ cur t hg) h1
    unfold Oper.wp
    simp [execOp, ho, resolve, invoke, builtin, hd, hs, hrun, Result.andThen]
    exact hK _ _ (h _ (heap_lay g t cs w cur off hg) (fun B w0 hb hB => below_lay hB cs w0 w off hb) (fun k hk => lay_other cs w off k hk))
/-- The first n of l, zeros behind. -/
def resK (l : List Int) (n : Nat) : List Int := l.take n ++ List.replicate (n - l.length) 0
theorem resK_len (l : List Int) (n : Nat) : (resK l n).length = n := by
  unfold resK
  simp
  omega
theorem resK_self (l : List Int) : resK l l.length = l := by
  unfold resK
  simp
theorem Reads.ints_at {w : World} {B : Nat} {A : Option Addr} {n cap : Nat} {l : List Int} (h : Reads w B (.slice A n cap) (intsD l)) : At w A (l.map iV) := by
  rcases Nat.eq_zero_or_pos l.length with h0 | h0
  · left
    rw [List.length_eq_zero_iff.1 h0]
    rfl
  · obtain ⟨b, off, rfl, hb, hc⟩ := h.int h0
    refine .inr ⟨b, off, rfl, fun i hi => ?_⟩
    simp only [List.length_map] at hi
    rw [hc i hi]
    simp
theorem madeI_list (n : Nat) : (madeCells #[.int .i64 0] n).toList = List.replicate n (Value.int .i64 0) := by
  refine List.ext_getElem (by simp [size_madeCells]) (fun i h1 h2 => ?_)
  simp only [Array.length_toList, size_madeCells] at h1
  rw [List.getElem_replicate, Array.getElem_toList]
  simp [madeCells, Nat.mod_one]
set_option maxHeartbeats 1000000 in
theorem resized_any (v : Value) (l : List Int) (n : Nat) (w : World) (hv : Reads w w.heap.size v (intsD l)) (hl : l.length ≤ 1100000) (hn : n ≤ 1100000) :
    Calls Try.prog 58 #[v, .int .i64 (n : Int)] w fun e w' => ∃ u, e = .returned u ∧ Owns w' (fun b => w.heap.size ≤ b) u (intsD (resK l n)) ∧ Below w.heap.size w w' := by
  obtain ⟨A, c, rfl, _, _⟩ := hv.lenN
  have hmk := run_makeInts n hn
  have hA := hv.ints_at.on (bal1 w (.cells (madeCells #[.int .i64 0] n) 3))
  have Q0 := Lib.hid (al1 w (.cells (madeCells #[.int .i64 0] n) 3))
  have HB := Lib.hid (bal1 w (.cells (madeCells #[.int .i64 0] n) 3))
  obtain ⟨M, hM⟩ : ∃ M, Nat.min l.length n = M := ⟨_, rfl⟩
  have hM2 : (l.take n).length = M := by rw [List.length_take, ← hM]; exact Nat.min_comm _ _
  obtain ⟨cs, hcs⟩ : ∃ cs, cs = (l.take n).map iV := ⟨_, rfl⟩
  have hcl : cs.length = M * 1 := by rw [hcs, List.length_map, hM2, Nat.mul_one]
  have hmn : M ≤ n := by rw [← hM2, List.length_take]; omega
  have HM := Lib.hid hM
  have HCL := Lib.hid hcl
  have HFIT : Hid (0 + cs.length ≤ (madeCells #[.int .i64 0] n).size) := Lib.hid (by rw [size_madeCells, hcl]; simp; omega)
  have HONE : Hid (∀ u ∈ cs, u.oneCell' = true) := Lib.hid (by rw [hcs]; intro u hu; simp only [List.mem_map] at hu; obtain ⟨m, _, rfl⟩ := hu; rfl)
  have HPOS : Hid (∀ W, Below (w.alloc (.cells (madeCells #[.int .i64 0] n) 3)).heap.size (w.alloc (.cells (madeCells #[.int .i64 0] n) 3)) W → 0 < M → (some ⟨w.heap.size, 0, none⟩ : Option Addr) = some ⟨w.heap.size, 0, none⟩ ∧ ∃ ad, A = some ad ∧ ∀ j u, cs[j]? = some u → W.cell? (ad.add j) = some u) := by
    refine Lib.hid (fun W hW hp => ⟨rfl, ?_⟩)
    rcases hA.on hW with h | ⟨b, off, rfl, hc⟩
    · have : l = [] := by simpa using h
      subst this
      simp at hM2
      omega
    · refine ⟨_, rfl, fun j u hj => ?_⟩
      rw [hcs] at hj
      obtain ⟨j1, j2⟩ := List.getElem?_eq_some_iff.1 hj
      simp only [List.length_map, List.length_take] at j1
      rw [Addr.add_lit]
      have := hc j (by simp; omega)
      rw [this]
      congr 1
      rw [← j2]
      simp
  have HEND : Hid ((layA (madeCells #[.int .i64 0] n) 0 cs).toList = (resK l n).map iV) := Lib.hid (by
    rw [layA_list _ _ _ HFIT.out, hcs, madeI_list, resK, List.map_append, List.map_replicate]
    simp only [List.take_zero, List.nil_append, Nat.zero_add, List.length_map, List.drop_replicate]
    congr 2
    rw [List.length_take]
    omega)
  have HSZ : Hid ((layA (madeCells #[.int .i64 0] n) 0 cs).size = n) := Lib.hid (by rw [layA_size, size_madeCells])
  have n0 : (0 : Int) ≤ (n : Int) := by omega
  clear hv hA hM hM2 hcl hcs hmn
  generalize hW0 : w.alloc (.cells (madeCells #[.int .i64 0] n) 3) = W0 at HB Q0 HPOS
  go_enter Try.func58, Try.ntmps58
  go_upto_region 2 with (fail)
  clear hW0 hmk
  go_wp2_with (refine wpList_copyAny rfl (.tmp 8) (.tmp 9) 50 50 rfl 3 1 Try.underlying50 (by kernel_rfl) _ _ _ _ _ _ M rfl rfl HM.out w.heap.size 0 (madeCells #[.int .i64 0] n) 3 Q0.out cs HCL.out (HPOS.out _ (Below.refl _ _)) HFIT.out HONE.out ?_; intro w2 h2 b2 k2)
  have hb2 := b2 _ _ HB.out (Nat.le_refl _)
  have HB2 := Lib.hid hb2
  have HH2 := Lib.hid h2
  clear h2 b2 k2 hb2
  go_wp2
  go_ret
  refine ⟨_, rfl, ?_, HB2.out⟩
  have hr : Rw w2 w.heap.size 3 1 n n ((resK l n).map iV) := ⟨_, HH2.out, by rw [HSZ.out]; omega, by rw [HEND.out, List.take_of_length_le (by simp [resK_len])]⟩
  have h := Rw.owns (S := fun b => w.heap.size ≤ b) (cs := (resK l n).map fun n => .lit (iV n)) hr (Nat.le_refl _) (ints_litL _ _ _) (Nat.le_refl _) (by unfold maxLen; omega) (by simp [resK_len])
  unfold intsD
  rw [resK_len]
  exact h
theorem madeM_size (n : Nat) : (madeCells #[.string ⟨#[]⟩, .bool false, .slice none 0 0] (n * 3)).size = n * 3 := size_madeCells _ _
/-- What copyMaps has done with the first k Maps: their blocks' slices are us, those of the others still vs. -/
def CopyM (w wr : World) (l : List MapD) (us vs : List Value) (k : Nat) : Prop := us.length = k ∧ Rw wr w.heap.size 53 3 l.length l.length (mvl l (us ++ vs.drop k)) ∧ OwnsL wr (fun b => w.heap.size < b) us ((l.take k).map mapI) ∧ Below w.heap.size w wr
/-- Maps in a row that is full, in block g; the slices of their blocks us. -/
def CpM (w : World) (base g : Nat) (l : List MapD) (us : List Value) : Prop := Rw w g 53 3 l.length l.length (mvl l us) ∧ us.length = l.length ∧ base ≤ g ∧ OwnsL w (fun b => base ≤ b ∧ b ≠ g) us (l.map mapI)
theorem CpM.on {w w' : World} {base g : Nat} {l : List MapD} {us : List Value} (h : CpM w base g l us) (hb : Below w.heap.size w w') : CpM w' base g l us := ⟨h.1.keep (hb.block g (Rw.lt h.1)), h.2.1, h.2.2.1, h.2.2.2.on hb⟩
set_option maxHeartbeats 4000000 in
theorem copyMapsX_any {t : TypeId} (v : Value) (l : List MapD) (w : World) (hv : Reads w w.heap.size v (mapsT t l)) (hs : SmallM l) : Calls Try.prog 52 #[v] w fun e w' => ∃ us, e = .returned (.slice (some ⟨w.heap.size, 0, none⟩) l.length l.length) ∧ CpM w' w.heap.size w.heap.size l us ∧ Below w.heap.size w w' := by
  obtain ⟨A, c, rfl, _, _⟩ := Reads.lenN hv
  have hln : l.length ≤ 1100000 := hs.1
  have hmk := run_makeMaps l.length (by omega)
  have HV := Lib.hid hv
  have HS := Lib.hid hs
  obtain ⟨vs, hvl, hat, hrd⟩ := Reads.atMaps hv
  have hA := hat.on (bal1 w (.cells (madeCells #[.string ⟨#[]⟩, .bool false, .slice none 0 0] (l.length * 3)) 53))
  have Q0 := Lib.hid (al1 w (.cells (madeCells #[.string ⟨#[]⟩, .bool false, .slice none 0 0] (l.length * 3)) 53))
  have HB := Lib.hid (bal1 w (.cells (madeCells #[.string ⟨#[]⟩, .bool false, .slice none 0 0] (l.length * 3)) 53))
  obtain ⟨cs, hcs⟩ : ∃ cs, cs = mvl l vs := ⟨_, rfl⟩
  have hcl : cs.length = l.length * 3 := by rw [hcs, mvl_len hvl]
  have HM : Hid (Nat.min l.length l.length = l.length) := Lib.hid (Nat.min_self _)
  have HCL := Lib.hid hcl
  have HFIT : Hid (0 + cs.length ≤ (madeCells #[.string ⟨#[]⟩, .bool false, .slice none 0 0] (l.length * 3)).size) := Lib.hid (by rw [madeM_size, hcl]; omega)
  have HONE : Hid (∀ u ∈ cs, u.oneCell' = true) := Lib.hid (by rw [hcs]; exact mvl_cells (mapI_ones hrd))
  have HPOS : Hid (0 < l.length → (some ⟨w.heap.size, 0, none⟩ : Option Addr) = some ⟨w.heap.size, 0, none⟩ ∧ ∃ ad, A = some ad ∧ ∀ j u, cs[j]? = some u → (w.alloc (.cells (madeCells #[.string ⟨#[]⟩, .bool false, .slice none 0 0] (l.length * 3)) 53)).cell? (ad.add j) = some u) := by
    refine Lib.hid (fun hp => ⟨rfl, ?_⟩)
    rcases hA with h | ⟨b, off, rfl, hc⟩
    · have := congrArg List.length h
      rw [mvl_len hvl] at this
      simp at this
      omega
    · refine ⟨_, rfl, fun j u hj => ?_⟩
      rw [hcs] at hj
      obtain ⟨j1, j2⟩ := List.getElem?_eq_some_iff.1 hj
      rw [Addr.add_lit, hc j j1, j2]
  have HEND : Hid ((layA (madeCells #[.string ⟨#[]⟩, .bool false, .slice none 0 0] (l.length * 3)) 0 cs).toList = mvl l vs) := Lib.hid (by
    rw [layA_list _ _ _ HFIT.out, List.take_zero, List.nil_append, List.drop_of_length_le (by rw [Array.length_toList, madeM_size, hcl]; omega), List.append_nil, hcs])
  have HSZ : Hid ((layA (madeCells #[.string ⟨#[]⟩, .bool false, .slice none 0 0] (l.length * 3)) 0 cs).size = l.length * 3) := Lib.hid (by rw [layA_size, madeM_size])
  have HVL := Lib.hid hvl
  clear hv hA hat hrd hs hcl hcs hvl
  generalize hW0 : w.alloc (.cells (madeCells #[.string ⟨#[]⟩, .bool false, .slice none 0 0] (l.length * 3)) 53) = W0 at HB Q0 HPOS
  go_enter Try.func52, Try.ntmps52
  go_upto_region 2 with (fail)
  clear hW0 hmk
  go_upto_region 3 with (refine wpList_copyAny rfl (.tmp 9) (.tmp 10) 32 32 rfl 53 3 Try.underlying32 (by kernel_rfl) _ _ _ _ _ _ l.length rfl rfl HM.out w.heap.size 0 (madeCells #[.string ⟨#[]⟩, .bool false, .slice none 0 0] (l.length * 3)) 53 Q0.out cs HCL.out HPOS.out HFIT.out HONE.out ?_; intro w2 h2 b2 k2)
  have hb2 := b2 _ _ HB.out (Nat.le_refl _)
  have REL : Hid (CopyM w w2 l [] vs 0) := Lib.hid ⟨rfl, ⟨_, h2, HSZ.out, by rw [HEND.out, List.nil_append, List.drop_zero, List.take_of_length_le (by rw [mvl_len HVL.out]; exact Nat.le_refl _)]⟩, OwnsL.nil _ _, hb2⟩
  clear h2 b2 k2 hb2 HB Q0 HPOS HEND HSZ HFIT HONE HCL HM
  go_wp2
  go_loopw [4, 5, 14] (fun _ _ i wr => ∃ (k : Nat) (us : List Value), k ≤ l.length ∧ i = .int .i64 k ∧ Hid (CopyM w wr l us vs k)) (fun _ _ i _ => l.length - (intOf i).toNat)
  case atStart => exact ⟨0, [], Nat.zero_le _, rfl, REL⟩
  case round =>
    clear REL
    obtain ⟨k, us, hk, rfl, HC⟩ := hrel
    obtain ⟨hul, hrw, hown, hb⟩ := HC.out
    by_cases hlt : k < l.length
    · obtain ⟨b, off, rfl, hbb, hc⟩ := (HV.out.on hb).maps hlt
      obtain ⟨A1, d1, ⟨c0, c1, c2⟩, _, _, r1⟩ := hc k hlt
      have hlk := (HS.out.at hlt).2
      have hB1 := bal1 wr (.cells #[.string (l[k]).a, .bool (l[k]).f, .slice A1 (l[k]).l.length d1] 53)
      have HX := Lib.hid (resized_any (.slice A1 (l[k]).l.length d1) (l[k]).l (l[k]).l.length _ (r1.on hB1) hlk hlk)
      have HR := Lib.hid hrw
      have HO := Lib.hid hown
      have HBB := Lib.hid hb
      have HB1 := Lib.hid hB1
      have HU := Lib.hid hul
      have hgl := Rw.lt hrw
      have i1 : (k : Int) < (l.length : Int) := by omega
      have i2 : (0 : Int) ≤ (k : Int) := by omega
      clear hc r1 hrw hown hb hB1 HC hul
      go_wp2_with fail
      refine HX.out.mono ?_
      rintro e w3 ⟨u, rfl, o3, b3⟩
      rw [resK_self] at o3
      obtain ⟨A3, d3, rfl, _, _⟩ := o3.reads.lenN
      have B3 := Lib.hid (bstep HB1.out b3)
      have r3 := HR.out.keep (B3.out.block _ hgl)
      have hlen : (us ++ vs.drop k).length = l.length := by rw [List.length_append, HU.out, List.length_drop, HVL.out]; omega
      have hml := mvl_len hlen
      obtain ⟨y3, e3⟩ : ∃ y, w3.cell? ⟨w.heap.size, k * 3 + 2, none⟩ = some y := ⟨_, r3.cell (i := k * 3 + 2) (by rw [hml]; omega)⟩
      have f3 := r3.frozen (k * 3 + 2)
      have R3 := Lib.hid (r3.set (k * 3 + 2) (.slice A3 (l[k]).l.length d3))
      have O3 := Lib.hid (OwnsL.pushM (g := w.heap.size) (w2 := w3.setCell ⟨w.heap.size, k * 3 + 2, none⟩ (.slice A3 (l[k]).l.length d3)) HO.out B3.out (o3.mono (fun b hb => by simp at hb; omega)) hgl (fun b hb => Below.heap_setCell _ _ _ _ (by simpa using hb)))
      have BF := Lib.hid ((bstep HBB.out B3.out).setCell (p := ⟨w.heap.size, k * 3 + 2, none⟩) (Nat.le_refl w.heap.size) (.slice A3 (l[k]).l.length d3))
      have HE : Hid ((mvl l (us ++ vs.drop k)).set (k * 3 + 2) (.slice A3 (l[k]).l.length d3) = mvl l ((us ++ [.slice A3 (l[k]).l.length d3]) ++ vs.drop (k + 1))) := Lib.hid (by
        rw [← mvl_setV hlen hlt]
        congr 1
        rw [List.drop_eq_getElem_cons (show k < vs.length by rw [HVL.out]; omega)]
        have := HU.out
        subst this
        rw [List.set_append_right _ _ (Nat.le_refl _), Nat.sub_self, List.set_cons_zero]
        simp)
      clear o3 b3 r3 c0 c1 c2 hlen hml
      go_wp2
      go_roundw
      case rel =>
        refine ⟨k + 1, us ++ [.slice A3 (l[k]).l.length d3], by omega, by go_num, Lib.hid ⟨by simp [HU.out], ?_, ?_, BF.out⟩⟩
        · rw [← HE.out]
          exact R3.out
        · rw [List.take_succ_eq_append_getElem hlt, List.map_append]
          exact O3.out
      case measure => simp [intOf]; omega
    · have e : k = l.length := by omega
      subst e
      rw [List.drop_of_length_le (by rw [HVL.out]; exact Nat.le_refl _), List.append_nil] at hrw
      rw [List.take_length] at hown
      have HR := Lib.hid hrw
      have HO := Lib.hid hown
      have HBB := Lib.hid hb
      have HULN := Lib.hid hul
      clear hrw hown hb HC hul
      go_wp2
      go_ret
      exact ⟨us, rfl, ⟨HR.out, HULN.out, Nat.le_refl _, HO.out.mono (fun b hb => ⟨by omega, by omega⟩)⟩, HBB.out⟩
theorem copyMaps_any {t : TypeId} (v : Value) (l : List MapD) (w : World) (hv : Reads w w.heap.size v (mapsT t l)) (hs : SmallM l) : Calls Try.prog 52 #[v] w (NewM w l) := by
  have hln : l.length ≤ 1100000 := hs.1
  refine (copyMapsX_any v l w hv hs).mono ?_
  rintro e w1 ⟨us, rfl, h, b⟩
  exact ⟨_, rfl, Rw.maps (S := fun b => w.heap.size ≤ b) h.1 h.2.2.1 (Nat.le_refl _) (by unfold maxLen; omega) h.2.2.2, b⟩
end Go.Proofs.Ytcimpcocgmlmoaa
