/- What the operations on lists of Maps answer, as functions of the data; contracts for MapCreate, MapSnap and MapKill of both sides. Conditions: at most 1100000 Maps, letters and blocks. -/
import Derived.Test.YtcimpcocgmlmoaaMapAdd
import Derived.Test.YtcimpcocgmlmoaaMapDel
import Derived.Test.YtcimpcocgmlmoaaExMap
import Derived.Test.YtcimpcocgmlmoaaCelFind
import Derived.Test.YtcimpcocgmlmoaaLast5
namespace Go.Proofs.Ytcimpcocgmlmoaa
open Go.RowKit
set_option maxRecDepth 100000
set_option linter.unusedSimpArgs false
set_option linter.unusedVariables false

def sizeMB (n : Int) : Bool := decide (1 ≤ n) && decide (n ≤ 12)
def noMap : MapD := ⟨⟨#[]⟩, false, []⟩
def mapD (l : List MapD) (s : ByteArray) : MapD := l.getD (mapJ s l) noMap
def createM (s : ByteArray) (n : Int) (l : List MapD) : List MapD × Int :=
  if nameOkB s then (if 0 ≤ mapK s l then (l, 3) else if sizeMB n then addK l ⟨s, false, List.replicate n.toNat 0⟩ else (l, 4)) else (l, 1)
def snapM (s u : ByteArray) (f : Bool) (l : List MapD) : List MapD × Int :=
  if nameOkB s then (if nameOkB u then (if mapK s l < 0 then (l, 2) else if 0 ≤ mapK u l then (l, 3) else addK l ⟨u, f, (mapD l s).l⟩) else (l, 1)) else (l, 1)
def codeM (s : ByteArray) (l : List MapD) : Int := if nameOkB s then (if mapK s l < 0 then 2 else 0) else 1
def killM (s : ByteArray) (l : List MapD) : List MapD × Int := if codeM s l = 0 then (l.eraseIdx (mapJ s l), 0) else (l, codeM s l)
theorem mapK_pos {s : ByteArray} {l : List MapD} (h : ¬ mapK s l < 0) : mapK s l = (mapJ s l : Int) ∧ mapJ s l < l.length := by
  unfold mapK at *
  by_cases h1 : mapJ s l < l.length
  · rw [if_pos h1]; exact ⟨rfl, h1⟩
  · rw [if_neg h1] at h; exact absurd (by omega) h
theorem mapD_at {s : ByteArray} {l : List MapD} (h : mapJ s l < l.length) : mapD l s = l[mapJ s l] := by
  unfold mapD
  rw [List.getD_eq_getElem?_getD, List.getElem?_eq_getElem h]
  rfl
/-- A call leaves Maps in memory of its own, and a code. -/
def NewMC (w : World) (r : List MapD × Int) (e : Ending) (w' : World) : Prop := ∃ v, e = .returned (.tuple #[v, .int .i64 r.2]) ∧ Owns w' (fun b => w.heap.size ≤ b) v (mapsT 53 r.1) ∧ Below w.heap.size w w'
theorem sameB {f : Nat} {a : Array Value} {x : Ending} {W : World} (h : Calls Try.prog f a W (fun e w' => e = x ∧ W = w')) : Calls Try.prog f a W (fun e w' => e = x ∧ Below W.heap.size W w') :=
  h.mono (fun e w' ⟨h1, h2⟩ => ⟨h1, by subst h2; exact Below.refl _ _⟩)
theorem sizeOkM_any (n : Int) (w : World) : Calls Try.prog 53 #[.int .i64 n] w fun e w' => e = .returned (.bool (sizeMB n)) ∧ w = w' := by
  unfold sizeMB
  cases h1 : decide (1 ≤ n) <;> cases h2 : decide (n ≤ 12)
  all_goals
    go_enter Try.func53, Try.ntmps53
    go_wp2
    go_ret
    exact ⟨rfl, rfl⟩
theorem made_owns (n : Nat) (hn : n ≤ 1100000) (W : World) : Owns (W.alloc (.cells (madeCells #[.int .i64 0] n) 3)) (fun b => b = W.heap.size) (.slice (some ⟨W.heap.size, 0, none⟩) n n) (intsD (List.replicate n 0)) := by
  have hr : Rw (W.alloc (.cells (madeCells #[.int .i64 0] n) 3)) W.heap.size 3 1 n n ((List.replicate n (0 : Int)).map iV) := ⟨_, heap_alloc_new W _, by rw [size_madeCells]; simp, by rw [madeI_list, List.map_replicate, Nat.mul_one, List.take_of_length_le (by simp)]; rfl⟩
  have h := Rw.owns (S := fun b => b = W.heap.size) (cs := (List.replicate n (0 : Int)).map fun n => .lit (iV n)) hr rfl (ints_litL _ _ _) (Nat.le_refl _) (by unfold maxLen; omega) (by simp)
  unfold intsD
  rw [List.length_replicate]
  exact h
set_option maxHeartbeats 4000000 in
theorem implMapCreate_any {t : TypeId} (va : Value) (l : List MapD) (w : World) (hv : Reads w w.heap.size va (mapsT t l)) (hs : SmallM l) (s : ByteArray) (n : Int) (hz : s.size ≤ maxLen) : Calls Try.prog 23 #[va, .string s, .int .i64 n] w (NewMC w (createM s n l)) := by
  obtain ⟨A, c, rfl, _, _⟩ := Reads.lenN hv
  have hln : l.length ≤ 1100000 := hs.1
  have BB := Lib.hid (Below.refl w.heap.size w)
  have HC := Lib.hid (fun (W : World) (b : Below w.heap.size w W) => copyMaps_any _ l W (hv.on b) hs)
  have HA := Lib.hid (fun (W : World) (b : Below w.heap.size w W) => implMapAt_any _ l s W (hv.on b) hs)
  have HN := Lib.hid (fun (W : World) => sameB (implNameOk_any s W hz))
  have HS := Lib.hid (fun (W : World) => sameB (sizeOkM_any n W))
  have HR0 : Hid (createM s n l = if nameOkB s then (if 0 ≤ mapK s l then (l, 3) else if sizeMB n then addK l ⟨s, false, List.replicate n.toNat 0⟩ else (l, 4)) else (l, 1)) := Lib.hid rfl
  obtain ⟨R, hR⟩ : ∃ R, createM s n l = R := ⟨_, rfl⟩
  rw [hR] at HR0 ⊢
  clear hR
  cases h1 : nameOkB s
  · rw [h1] at HN
    have HR : Hid (R = (l, 1)) := Lib.hid (by rw [HR0.out, h1] <;> rfl)
    clear hv h1 HR0 HA HS
    go_enter Try.func23, Try.ntmps23
    go_wp2_with fail
    refine (HN.out _).mono ?_
    rintro r w1 ⟨rfl, b⟩
    have z1 := b.size
    replace BB := Lib.hid (bstep BB.out b)
    clear b
    go_wp2_with fail
    refine (HC.out _ BB.out).mono ?_
    rintro r w2 ⟨vC, rfl, o, b⟩
    have zC := b.size
    replace BB := Lib.hid (bstep BB.out b)
    have OC := Lib.hid o.ownR
    clear o b
    go_wp2
    go_ret2
    exact ⟨_, by rw [HR.out] <;> rfl, by rw [HR.out]; exact (OC.out.mono (fun b hb => by omega)), BB.out⟩
  · rw [h1] at HN
    obtain ⟨K, hK⟩ : ∃ K, mapK s l = K := ⟨_, rfl⟩
    rw [hK] at HA HR0
    by_cases h2 : 0 ≤ K
    · have HR : Hid (R = (l, 3)) := Lib.hid (by rw [HR0.out, h1, if_pos h2] <;> rfl)
      have d2 : decide (K ≥ 0) = true := decide_eq_true h2
      clear hv h1 HR0 HS hK
      go_enter Try.func23, Try.ntmps23
      go_wp2_with fail
      refine (HN.out _).mono ?_
      rintro r w1 ⟨rfl, b⟩
      have z1 := b.size
      replace BB := Lib.hid (bstep BB.out b)
      clear b
      go_wp2_with fail
      refine (HA.out _ BB.out).mono ?_
      rintro r w2 ⟨rfl, b⟩
      have z2 := b.size
      replace BB := Lib.hid (bstep BB.out b)
      clear b
      go_wp2_with fail
      refine (HC.out _ BB.out).mono ?_
      rintro r w3 ⟨vC, rfl, o, b⟩
      have zC := b.size
      replace BB := Lib.hid (bstep BB.out b)
      have OC := Lib.hid o.ownR
      clear o b
      go_wp2
      go_ret2
      exact ⟨_, by rw [HR.out] <;> rfl, by rw [HR.out]; exact (OC.out.mono (fun b hb => by omega)), BB.out⟩
    · have d2 : decide (K ≥ 0) = false := decide_eq_false h2
      cases h3 : sizeMB n
      · rw [h3] at HS
        have HR : Hid (R = (l, 4)) := Lib.hid (by rw [HR0.out, h1, if_neg h2, h3] <;> rfl)
        clear hv h1 HR0 h3 hK
        go_enter Try.func23, Try.ntmps23
        go_wp2_with fail
        refine (HN.out _).mono ?_
        rintro r w1 ⟨rfl, b⟩
        have z1 := b.size
        replace BB := Lib.hid (bstep BB.out b)
        clear b
        go_wp2_with fail
        refine (HA.out _ BB.out).mono ?_
        rintro r w2 ⟨rfl, b⟩
        have z2 := b.size
        replace BB := Lib.hid (bstep BB.out b)
        clear b
        go_wp2_with fail
        refine (HS.out _).mono ?_
        rintro r w3 ⟨rfl, b⟩
        have z3 := b.size
        replace BB := Lib.hid (bstep BB.out b)
        clear b
        go_wp2_with fail
        refine (HC.out _ BB.out).mono ?_
        rintro r w4 ⟨vC, rfl, o, b⟩
        have zC := b.size
        replace BB := Lib.hid (bstep BB.out b)
        have OC := Lib.hid o.ownR
        clear o b
        go_wp2
        go_ret2
        exact ⟨_, by rw [HR.out] <;> rfl, by rw [HR.out]; exact (OC.out.mono (fun b hb => by omega)), BB.out⟩
      · rw [h3] at HS
        have h4 : 1 ≤ n ∧ n ≤ 12 := by unfold sizeMB at h3; rw [Bool.and_eq_true] at h3; exact ⟨of_decide_eq_true h3.1, of_decide_eq_true h3.2⟩
        obtain ⟨q, rfl⟩ : ∃ q : Nat, n = (q : Int) := ⟨n.toNat, by omega⟩
        have hq : q ≤ 1100000 := by omega
        have hmk := run_makeInts q hq
        rw [Int.toNat_natCast] at HR0
        have HR : Hid (R = addK l ⟨s, false, List.replicate q 0⟩) := Lib.hid (by rw [HR0.out, h1, if_neg h2, h3] <;> rfl)
        have HAD := Lib.hid (fun (W : World) (b : Below w.heap.size w W) => addMap_any _ l ⟨s, false, List.replicate q 0⟩ (.slice (some ⟨W.heap.size, 0, none⟩) q q) (fun b => b = W.heap.size) (W.alloc (.cells (madeCells #[.int .i64 0] q) 3)) ((hv.on b).on (bal1 W _)) hs (by have := made_owns q hq W; rwa [← List.length_replicate (n := q) (a := (0 : Int))] at this ⊢) (fun b hb => by subst hb; simp))
        clear hv h1 HR0 h3 hK HC h4
        go_enter Try.func23, Try.ntmps23
        go_wp2_with fail
        refine (HN.out _).mono ?_
        rintro r w1 ⟨rfl, b⟩
        have z1 := b.size
        replace BB := Lib.hid (bstep BB.out b)
        clear b
        go_wp2_with fail
        refine (HA.out _ BB.out).mono ?_
        rintro r w2 ⟨rfl, b⟩
        have z2 := b.size
        replace BB := Lib.hid (bstep BB.out b)
        clear b
        go_wp2_with fail
        refine (HS.out _).mono ?_
        rintro r w3 ⟨rfl, b⟩
        have z3 := b.size
        replace BB := Lib.hid (bstep BB.out b)
        clear b
        have HAD2 := Lib.hid (HAD.out _ BB.out)
        have hzz := BB.out.size
        clear HAD HN HA HS
        go_wp2_with fail
        refine HAD2.out.mono ?_
        rintro e w9 ⟨v9, rfl, o9, b9⟩
        have O9 := Lib.hid o9
        have B9 := Lib.hid (bstep BB.out (bstep (bal1 _ _) b9))
        clear o9 b9 HAD2 hmk
        go_wp2
        go_ret2
        exact ⟨v9, by rw [HR.out] <;> rfl, by rw [HR.out]; exact O9.out.mono (fun b hb => by simp at hb; omega), B9.out⟩
set_option maxHeartbeats 4000000 in
theorem specMapCreate_any {t : TypeId} (va : Value) (l : List MapD) (w : World) (hv : Reads w w.heap.size va (mapsT t l)) (hs : SmallM l) (s : ByteArray) (n : Int) (hz : s.size ≤ maxLen) : Calls Try.prog 22 #[va, .string s, .int .i64 n] w (NewMC w (createM s n l)) := by
  obtain ⟨A, c, rfl, _, _⟩ := Reads.lenN hv
  have hln : l.length ≤ 1100000 := hs.1
  have BB := Lib.hid (Below.refl w.heap.size w)
  have HC := Lib.hid (fun (W : World) (b : Below w.heap.size w W) => l12Copy_any _ l W (hv.on b) hs)
  have HA := Lib.hid (fun (W : World) (b : Below w.heap.size w W) => specMapAt_any _ l s W (hv.on b) hs)
  have HN := Lib.hid (fun (W : World) => sameB (specNameOk_any s W hz))
  have HS := Lib.hid (fun (W : World) => sameB ((show Calls Try.prog 35 #[.int .i64 n, .int .i64 1, .int .i64 12] W (fun e w' => e = .returned (.bool (sizeMB n)) ∧ W = w') from l1InC_any n 1 12 W)))
  have HR0 : Hid (createM s n l = if nameOkB s then (if 0 ≤ mapK s l then (l, 3) else if sizeMB n then addK l ⟨s, false, List.replicate n.toNat 0⟩ else (l, 4)) else (l, 1)) := Lib.hid rfl
  obtain ⟨R, hR⟩ : ∃ R, createM s n l = R := ⟨_, rfl⟩
  rw [hR] at HR0 ⊢
  clear hR
  cases h1 : nameOkB s
  · rw [h1] at HN
    have HR : Hid (R = (l, 1)) := Lib.hid (by rw [HR0.out, h1] <;> rfl)
    clear hv h1 HR0 HA HS
    go_enter Try.func22, Try.ntmps22
    go_wp2_with fail
    refine (HC.out _ BB.out).mono ?_
    rintro r w1 ⟨vC, rfl, o, b⟩
    have zC := b.size
    replace BB := Lib.hid (bstep BB.out b)
    have OC := Lib.hid o.ownR
    clear o b
    go_wp2_with fail
    refine (HN.out _).mono ?_
    rintro r w2 ⟨rfl, b⟩
    have z2 := b.size
    replace OC := Lib.hid (OC.out.on b)
    replace BB := Lib.hid (bstep BB.out b)
    clear b
    go_wp2
    go_ret2
    exact ⟨_, by rw [HR.out] <;> rfl, by rw [HR.out]; exact (OC.out.mono (fun b hb => by omega)), BB.out⟩
  · rw [h1] at HN
    obtain ⟨K, hK⟩ : ∃ K, mapK s l = K := ⟨_, rfl⟩
    rw [hK] at HA HR0
    by_cases h2 : 0 ≤ K
    · have HR : Hid (R = (l, 3)) := Lib.hid (by rw [HR0.out, h1, if_pos h2] <;> rfl)
      have d2 : decide (K ≥ 0) = true := decide_eq_true h2
      clear hv h1 HR0 HS hK
      go_enter Try.func22, Try.ntmps22
      go_wp2_with fail
      refine (HC.out _ BB.out).mono ?_
      rintro r w1 ⟨vC, rfl, o, b⟩
      have zC := b.size
      replace BB := Lib.hid (bstep BB.out b)
      have OC := Lib.hid o.ownR
      clear o b
      go_wp2_with fail
      refine (HN.out _).mono ?_
      rintro r w2 ⟨rfl, b⟩
      have z2 := b.size
      replace OC := Lib.hid (OC.out.on b)
      replace BB := Lib.hid (bstep BB.out b)
      clear b
      go_wp2_with fail
      refine (HA.out _ BB.out).mono ?_
      rintro r w3 ⟨rfl, b⟩
      have z3 := b.size
      replace OC := Lib.hid (OC.out.on b)
      replace BB := Lib.hid (bstep BB.out b)
      clear b
      go_wp2
      go_ret2
      exact ⟨_, by rw [HR.out] <;> rfl, by rw [HR.out]; exact (OC.out.mono (fun b hb => by omega)), BB.out⟩
    · have d2 : decide (K ≥ 0) = false := decide_eq_false h2
      cases h3 : sizeMB n
      · rw [h3] at HS
        have HR : Hid (R = (l, 4)) := Lib.hid (by rw [HR0.out, h1, if_neg h2, h3] <;> rfl)
        clear hv h1 HR0 h3 hK
        go_enter Try.func22, Try.ntmps22
        go_wp2_with fail
        refine (HC.out _ BB.out).mono ?_
        rintro r w1 ⟨vC, rfl, o, b⟩
        have zC := b.size
        replace BB := Lib.hid (bstep BB.out b)
        have OC := Lib.hid o.ownR
        clear o b
        go_wp2_with fail
        refine (HN.out _).mono ?_
        rintro r w2 ⟨rfl, b⟩
        have z2 := b.size
        replace OC := Lib.hid (OC.out.on b)
        replace BB := Lib.hid (bstep BB.out b)
        clear b
        go_wp2_with fail
        refine (HA.out _ BB.out).mono ?_
        rintro r w3 ⟨rfl, b⟩
        have z3 := b.size
        replace OC := Lib.hid (OC.out.on b)
        replace BB := Lib.hid (bstep BB.out b)
        clear b
        go_wp2_with fail
        refine (HS.out _).mono ?_
        rintro r w4 ⟨rfl, b⟩
        have z4 := b.size
        replace OC := Lib.hid (OC.out.on b)
        replace BB := Lib.hid (bstep BB.out b)
        clear b
        go_wp2
        go_ret2
        exact ⟨_, by rw [HR.out] <;> rfl, by rw [HR.out]; exact (OC.out.mono (fun b hb => by omega)), BB.out⟩
      · rw [h3] at HS
        have h4 : 1 ≤ n ∧ n ≤ 12 := by unfold sizeMB at h3; rw [Bool.and_eq_true] at h3; exact ⟨of_decide_eq_true h3.1, of_decide_eq_true h3.2⟩
        obtain ⟨q, rfl⟩ : ∃ q : Nat, n = (q : Int) := ⟨n.toNat, by omega⟩
        have hq : q ≤ 1100000 := by omega
        have hmk := run_makeInts q hq
        rw [Int.toNat_natCast] at HR0
        by_cases h6 : 6 ≤ l.length
        · have d6 : decide ((l.length : Int) ≥ 6) = true := decide_eq_true (by omega)
          have HR : Hid (R = (l, 6)) := Lib.hid (by rw [HR0.out, h1, if_neg h2, h3]; unfold addK; rw [if_pos h6] <;> rfl)
          clear hv h1 HR0 h3 hK h4 hmk
          go_enter Try.func22, Try.ntmps22
          go_wp2_with fail
          refine (HC.out _ BB.out).mono ?_
          rintro r w1 ⟨vC, rfl, o, b⟩
          have zC := b.size
          replace BB := Lib.hid (bstep BB.out b)
          have OC := Lib.hid o.ownR
          clear o b
          go_wp2_with fail
          refine (HN.out _).mono ?_
          rintro r w2 ⟨rfl, b⟩
          have z2 := b.size
          replace OC := Lib.hid (OC.out.on b)
          replace BB := Lib.hid (bstep BB.out b)
          clear b
          go_wp2_with fail
          refine (HA.out _ BB.out).mono ?_
          rintro r w3 ⟨rfl, b⟩
          have z3 := b.size
          replace OC := Lib.hid (OC.out.on b)
          replace BB := Lib.hid (bstep BB.out b)
          clear b
          go_wp2_with fail
          refine (HS.out _).mono ?_
          rintro r w4 ⟨rfl, b⟩
          have z4 := b.size
          replace OC := Lib.hid (OC.out.on b)
          replace BB := Lib.hid (bstep BB.out b)
          clear b
          go_wp2
          go_ret2
          exact ⟨_, by rw [HR.out] <;> rfl, by rw [HR.out]; exact (OC.out.mono (fun b hb => by omega)), BB.out⟩
        · have d6 : decide ((l.length : Int) ≥ 6) = false := decide_eq_false (by omega)
          have HR : Hid (R = (insM l (bubM l l.length s) ⟨s, false, List.replicate q 0⟩, 0)) := Lib.hid (by rw [HR0.out, h1, if_neg h2, h3]; unfold addK; rw [if_neg h6] <;> rfl)
          have HAD := Lib.hid (fun (W : World) (b : Below w.heap.size w W) => l12Put_any _ l ⟨s, false, List.replicate q 0⟩ (.slice (some ⟨W.heap.size, 0, none⟩) q q) (fun b => b = W.heap.size) (W.alloc (.cells (madeCells #[.int .i64 0] q) 3)) ((hv.on b).on (bal1 W _)) hs (made_owns q hq W) (fun b hb => by subst hb; simp))
          clear hv h1 HR0 h3 hK h4
          go_enter Try.func22, Try.ntmps22
          go_wp2_with fail
          refine (HC.out _ BB.out).mono ?_
          rintro r w1 ⟨vC, rfl, o, b⟩
          have zC := b.size
          replace BB := Lib.hid (bstep BB.out b)
          have OC := Lib.hid o.ownR
          clear o b
          go_wp2_with fail
          refine (HN.out _).mono ?_
          rintro r w2 ⟨rfl, b⟩
          have z2 := b.size
          replace OC := Lib.hid (OC.out.on b)
          replace BB := Lib.hid (bstep BB.out b)
          clear b
          go_wp2_with fail
          refine (HA.out _ BB.out).mono ?_
          rintro r w3 ⟨rfl, b⟩
          have z3 := b.size
          replace OC := Lib.hid (OC.out.on b)
          replace BB := Lib.hid (bstep BB.out b)
          clear b
          go_wp2_with fail
          refine (HS.out _).mono ?_
          rintro r w4 ⟨rfl, b⟩
          have z4 := b.size
          replace OC := Lib.hid (OC.out.on b)
          replace BB := Lib.hid (bstep BB.out b)
          clear b
          have HAD2 := Lib.hid (HAD.out _ BB.out)
          have hzz := BB.out.size
          clear HAD HN HA HS HC OC
          go_wp2_with fail
          refine HAD2.out.mono ?_
          rintro e w9 ⟨v9, rfl, o9, b9⟩
          have O9 := Lib.hid o9
          have B9 := Lib.hid (bstep BB.out (bstep (bal1 _ _) b9))
          clear o9 b9 HAD2 hmk
          go_wp2
          go_ret2
          exact ⟨v9, by rw [HR.out] <;> rfl, by rw [HR.out]; exact O9.out.mono (fun b hb => by simp at hb; omega), B9.out⟩
theorem nameOk_size {s : ByteArray} (h : nameOkB s = true) : s.size ≤ 6 := by
  unfold nameOkB inB at h
  simp only [Bool.and_eq_true, decide_eq_true_eq] at h
  omega
theorem addK_small {l : List MapD} {m : MapD} (h : cntM l ≤ 1048576) (hm : m.a.size ≤ 6) (hl : m.l.length ≤ 1100000) : SmallM (addK l m).1 := by
  have h0 := cntM_small h
  unfold addK
  by_cases h6 : 6 ≤ l.length
  · rw [if_pos h6]; exact h0
  · rw [if_neg h6]
    have hb := bubM_le l m.a l.length (Nat.le_refl _)
    have h1 := insM_len l _ m hb
    have h2 := insM_sum l (bubM l l.length m.a) m
    unfold cntM at h
    show SmallM (insM l (bubM l l.length m.a) m)
    refine ⟨by omega, by omega, fun k hk => ?_⟩
    unfold insM at hk
    rcases List.mem_append.1 hk with hk | hk
    · exact h0.2.2 k (List.mem_of_mem_take hk)
    · rcases List.mem_cons.1 hk with rfl | hk
      · exact hl
      · exact h0.2.2 k (List.mem_of_mem_drop hk)
theorem createM_small {l : List MapD} {s : ByteArray} {n : Int} (h : cntM l ≤ 1048576) : SmallM (createM s n l).1 := by
  have h0 := cntM_small h
  unfold createM
  cases h1 : nameOkB s
  · exact h0
  · simp only [if_true]
    by_cases h2 : 0 ≤ mapK s l
    · rw [if_pos h2]; exact h0
    · rw [if_neg h2]
      cases h3 : sizeMB n
      · exact h0
      · unfold sizeMB at h3
        simp only [Bool.and_eq_true, decide_eq_true_eq] at h3
        exact addK_small h (nameOk_size h1) (by simp; omega)
theorem mapD_small {l : List MapD} {s : ByteArray} (h : SmallM l) : (mapD l s).l.length ≤ 1100000 := by
  by_cases h1 : mapJ s l < l.length
  · rw [mapD_at h1]; exact (h.at h1).2
  · unfold mapD
    rw [List.getD_eq_getElem?_getD, List.getElem?_eq_none (by omega)]
    simp [noMap]
theorem snapM_small {l : List MapD} {s u : ByteArray} {f : Bool} (h : cntM l ≤ 1048576) : SmallM (snapM s u f l).1 := by
  have h0 := cntM_small h
  unfold snapM
  cases h1 : nameOkB s
  · exact h0
  · cases h2 : nameOkB u
    · exact h0
    · simp only [if_true]
      by_cases h3 : mapK s l < 0
      · rw [if_pos h3]; exact h0
      · rw [if_neg h3]
        by_cases h4 : 0 ≤ mapK u l
        · rw [if_pos h4]; exact h0
        · rw [if_neg h4]
          exact addK_small h (nameOk_size h2) (mapD_small h0)
theorem sumM_erase (l : List MapD) (k : Nat) : sumM (l.eraseIdx k) ≤ sumM l := by
  induction l generalizing k with
  | nil => simp
  | cons a l ih =>
    cases k with
    | zero => simp [sumM]
    | succ k => have := ih k; simp only [List.eraseIdx_cons_succ, sumM]; omega
theorem killM_small {l : List MapD} {s : ByteArray} (h : cntM l ≤ 1048576) : SmallM (killM s l).1 := by
  have h0 := cntM_small h
  unfold killM
  by_cases h1 : codeM s l = 0
  · rw [if_pos h1]
    have h2 := sumM_erase l (mapJ s l)
    have h3 := h0.1
    have h4 := h0.2.1
    show SmallM (l.eraseIdx (mapJ s l))
    refine ⟨by have := List.length_eraseIdx_le l (mapJ s l); omega, by omega, fun k hk => h0.2.2 k (List.mem_of_mem_eraseIdx hk)⟩
  · rw [if_neg h1]; exact h0
set_option maxHeartbeats 4000000 in
theorem implMapSnap_any {t : TypeId} (va : Value) (l : List MapD) (w : World) (hv : Reads w w.heap.size va (mapsT t l)) (hs : SmallM l) (s u : ByteArray) (f : Bool) (hz : s.size ≤ maxLen) (hzu : u.size ≤ maxLen) : Calls Try.prog 27 #[va, .string s, .string u, .bool f] w (NewMC w (snapM s u f l)) := by
  obtain ⟨A, c, rfl, _, _⟩ := Reads.lenN hv
  have hln : l.length ≤ 1100000 := hs.1
  have BB := Lib.hid (Below.refl w.heap.size w)
  have HC := Lib.hid (fun (W : World) (b : Below w.heap.size w W) => copyMaps_any _ l W (hv.on b) hs)
  have HA := Lib.hid (fun (W : World) (b : Below w.heap.size w W) => implMapAt_any _ l s W (hv.on b) hs)
  have HAU := Lib.hid (fun (W : World) (b : Below w.heap.size w W) => implMapAt_any _ l u W (hv.on b) hs)
  have HN := Lib.hid (fun (W : World) => sameB (implNameOk_any s W hz))
  have HNU := Lib.hid (fun (W : World) => sameB (implNameOk_any u W hzu))
  have HR0 : Hid (snapM s u f l = if nameOkB s then (if nameOkB u then (if mapK s l < 0 then (l, 2) else if 0 ≤ mapK u l then (l, 3) else addK l ⟨u, f, (mapD l s).l⟩) else (l, 1)) else (l, 1)) := Lib.hid rfl
  obtain ⟨R, hR⟩ : ∃ R, snapM s u f l = R := ⟨_, rfl⟩
  rw [hR] at HR0 ⊢
  clear hR
  have HP := Lib.hid (fun (h : ¬ mapK s l < 0) => mapK_pos h)
  obtain ⟨K, hK⟩ : ∃ K, mapK s l = K := ⟨_, rfl⟩
  rw [hK] at HA HR0 HP
  obtain ⟨K2, hK2⟩ : ∃ K2, mapK u l = K2 := ⟨_, rfl⟩
  rw [hK2] at HAU HR0
  cases h1 : nameOkB s
  · rw [h1] at HN
    have HR : Hid (R = (l, 1)) := Lib.hid (by rw [HR0.out, h1] <;> rfl)
    clear hv hK hK2 HR0 h1 HAU HNU HP
    go_enter Try.func27, Try.ntmps27
    go_wp2_with fail
    refine (HA.out _ BB.out).mono ?_
    rintro r w1 ⟨rfl, b⟩
    have z1 := b.size
    replace BB := Lib.hid (bstep BB.out b)
    clear b
    go_wp2_with fail
    refine (HN.out _).mono ?_
    rintro r w2 ⟨rfl, b⟩
    have z2 := b.size
    replace BB := Lib.hid (bstep BB.out b)
    clear b
    go_wp2_with fail
    refine (HC.out _ BB.out).mono ?_
    rintro r w3 ⟨vC, rfl, o, b⟩
    have zC := b.size
    replace BB := Lib.hid (bstep BB.out b)
    have OC := Lib.hid o.ownR
    clear o b
    go_wp2
    go_ret2
    exact ⟨_, by rw [HR.out] <;> rfl, by rw [HR.out]; exact (OC.out.mono (fun b hb => by omega)), BB.out⟩
  · rw [h1] at HN
    cases h2 : nameOkB u
    · rw [h2] at HNU
      have HR : Hid (R = (l, 1)) := Lib.hid (by rw [HR0.out, h1, h2] <;> rfl)
      clear hv hK hK2 HR0 h1 h2 HAU HP
      go_enter Try.func27, Try.ntmps27
      go_wp2_with fail
      refine (HA.out _ BB.out).mono ?_
      rintro r w1 ⟨rfl, b⟩
      have z1 := b.size
      replace BB := Lib.hid (bstep BB.out b)
      clear b
      go_wp2_with fail
      refine (HN.out _).mono ?_
      rintro r w2 ⟨rfl, b⟩
      have z2 := b.size
      replace BB := Lib.hid (bstep BB.out b)
      clear b
      go_wp2_with fail
      refine (HNU.out _).mono ?_
      rintro r w3 ⟨rfl, b⟩
      have z3 := b.size
      replace BB := Lib.hid (bstep BB.out b)
      clear b
      go_wp2_with fail
      refine (HC.out _ BB.out).mono ?_
      rintro r w4 ⟨vC, rfl, o, b⟩
      have zC := b.size
      replace BB := Lib.hid (bstep BB.out b)
      have OC := Lib.hid o.ownR
      clear o b
      go_wp2
      go_ret2
      exact ⟨_, by rw [HR.out] <;> rfl, by rw [HR.out]; exact (OC.out.mono (fun b hb => by omega)), BB.out⟩
    · rw [h2] at HNU
      by_cases h3 : K < 0
      · have HR : Hid (R = (l, 2)) := Lib.hid (by rw [HR0.out, h1, h2, if_pos h3] <;> rfl)
        clear hv hK hK2 HR0 h1 h2 HAU HP
        go_enter Try.func27, Try.ntmps27
        go_wp2_with fail
        refine (HA.out _ BB.out).mono ?_
        rintro r w1 ⟨rfl, b⟩
        have z1 := b.size
        replace BB := Lib.hid (bstep BB.out b)
        clear b
        go_wp2_with fail
        refine (HN.out _).mono ?_
        rintro r w2 ⟨rfl, b⟩
        have z2 := b.size
        replace BB := Lib.hid (bstep BB.out b)
        clear b
        go_wp2_with fail
        refine (HNU.out _).mono ?_
        rintro r w3 ⟨rfl, b⟩
        have z3 := b.size
        replace BB := Lib.hid (bstep BB.out b)
        clear b
        go_wp2_with fail
        refine (HC.out _ BB.out).mono ?_
        rintro r w4 ⟨vC, rfl, o, b⟩
        have zC := b.size
        replace BB := Lib.hid (bstep BB.out b)
        have OC := Lib.hid o.ownR
        clear o b
        go_wp2
        go_ret2
        exact ⟨_, by rw [HR.out] <;> rfl, by rw [HR.out]; exact (OC.out.mono (fun b hb => by omega)), BB.out⟩
      · by_cases h4 : 0 ≤ K2
        · have HR : Hid (R = (l, 3)) := Lib.hid (by rw [HR0.out, h1, h2, if_neg h3, if_pos h4] <;> rfl)
          have d4 : decide (K2 ≥ 0) = true := decide_eq_true h4
          clear hv hK hK2 HR0 h1 h2 HP
          go_enter Try.func27, Try.ntmps27
          go_wp2_with fail
          refine (HA.out _ BB.out).mono ?_
          rintro r w1 ⟨rfl, b⟩
          have z1 := b.size
          replace BB := Lib.hid (bstep BB.out b)
          clear b
          go_wp2_with fail
          refine (HN.out _).mono ?_
          rintro r w2 ⟨rfl, b⟩
          have z2 := b.size
          replace BB := Lib.hid (bstep BB.out b)
          clear b
          go_wp2_with fail
          refine (HNU.out _).mono ?_
          rintro r w3 ⟨rfl, b⟩
          have z3 := b.size
          replace BB := Lib.hid (bstep BB.out b)
          clear b
          go_wp2_with fail
          refine (HAU.out _ BB.out).mono ?_
          rintro r w4 ⟨rfl, b⟩
          have z4 := b.size
          replace BB := Lib.hid (bstep BB.out b)
          clear b
          go_wp2_with fail
          refine (HC.out _ BB.out).mono ?_
          rintro r w5 ⟨vC, rfl, o, b⟩
          have zC := b.size
          replace BB := Lib.hid (bstep BB.out b)
          have OC := Lib.hid o.ownR
          clear o b
          go_wp2
          go_ret2
          exact ⟨_, by rw [HR.out] <;> rfl, by rw [HR.out]; exact (OC.out.mono (fun b hb => by omega)), BB.out⟩
        · have d4 : decide (K2 ≥ 0) = false := decide_eq_false h4
          obtain ⟨hKJ, hJ⟩ := HP.out h3
          subst hKJ
          have HMD := Lib.hid (mapD_at hJ)
          obtain ⟨ab, off, rfl, hbb, hcc⟩ := hv.maps hJ
          obtain ⟨Aj, cj, hf, _, _, rj⟩ := hcc _ hJ
          have HF := Lib.hid hf
          have RJ := Lib.hid rj
          clear hcc hf rj
          have HR : Hid (R = addK l ⟨u, f, (mapD l s).l⟩) := Lib.hid (by rw [HR0.out, h1, h2, if_neg h3, if_neg h4] <;> rfl)
          rw [HMD.out] at HR
          have hlj := (hs.at hJ).2
          have HRZ := Lib.hid (fun (W : World) (b : Below w.heap.size w W) => resized_any _ (l[mapJ s l]).l (l[mapJ s l]).l.length W (RJ.out.on b) hlj hlj)
          have HAD := Lib.hid (fun (W : World) (b : Below w.heap.size w W) (um : Value) (T : Nat → Prop) (hu : Owns W T um (intsD (l[mapJ s l]).l)) (hT : ∀ b, T b → b < W.heap.size) => addMap_any _ l ⟨u, f, (l[mapJ s l]).l⟩ um T W (hv.on b) hs hu hT)
          generalize l[mapJ s l] = x at *
          generalize mapJ s l = J at *
          have i1 : (J : Int) < (l.length : Int) := by omega
          have i2 : (0 : Int) ≤ (J : Int) := by omega
          clear hv HR0 h1 h2 hK hK2 HC HP HMD
          go_enter Try.func27, Try.ntmps27
          go_wp2_with fail
          refine (HA.out _ BB.out).mono ?_
          rintro r w1 ⟨rfl, b⟩
          have z1 := b.size
          replace BB := Lib.hid (bstep BB.out b)
          clear b
          go_wp2_with fail
          refine (HN.out _).mono ?_
          rintro r w2 ⟨rfl, b⟩
          have z2 := b.size
          replace BB := Lib.hid (bstep BB.out b)
          clear b
          go_wp2_with fail
          refine (HNU.out _).mono ?_
          rintro r w3 ⟨rfl, b⟩
          have z3 := b.size
          replace BB := Lib.hid (bstep BB.out b)
          clear b
          go_wp2_with fail
          refine (HAU.out _ BB.out).mono ?_
          rintro r w4 ⟨rfl, b⟩
          have z4 := b.size
          replace BB := Lib.hid (bstep BB.out b)
          clear b
          have hzz := BB.out.size
          go_upto_region 8 with (fail)
          refine but_begin (f := 20) (S := fun V => Below w4.heap.size w4 V) (by kernel_rfl) ?_
          have hS0c : Below w4.heap.size w4 w4.drew := Below.drew1 _
          have hz0c : w4.heap.size ≤ w4.drew.heap.size := Nat.le_refl _
          generalize w4.drew = Udc at *
          refine but_take (f := 20) (i := 0) (v := ?vc0) rfl (by kernel_rfl) (by kernel_rfl) (by kernel_rfl) (by kernel_rfl) (by kernel_rfl) (fun _ _ _ h => h) (Or.inl ⟨(by rfl), ?hyc0⟩) hS0c ?restc0
          case hyc0 =>
            intro W hW
            go_simp
            exact rfl
          simp only [List.getElem_toArray, List.getElem_cons_succ, List.getElem_cons_zero, Act.put, List.setIfInBounds_toArray, List.set_cons_zero, List.set_cons_succ]
          refine but_take (f := 20) (i := 1) (v := ?vc1) rfl (by kernel_rfl) (by kernel_rfl) (by kernel_rfl) (by kernel_rfl) (by kernel_rfl) (fun _ _ _ h => h) (Or.inl ⟨(by rfl), ?hyc1⟩) hS0c ?restc1
          case hyc1 =>
            intro W hW
            go_simp
            exact rfl
          simp only [List.getElem_toArray, List.getElem_cons_succ, List.getElem_cons_zero, Act.put, List.setIfInBounds_toArray, List.set_cons_zero, List.set_cons_succ]
          refine but_take (f := 20) (i := 2) (v := ?vc2) rfl (by kernel_rfl) (by kernel_rfl) (by kernel_rfl) (by kernel_rfl) (by kernel_rfl) (fun _ _ _ h => h) (Or.inl ⟨(by rfl), ?hyc2⟩) hS0c ?restc2
          case hyc2 =>
            intro W hW
            go_simp
            exact rfl
          simp only [List.getElem_toArray, List.getElem_cons_succ, List.getElem_cons_zero, Act.put, List.setIfInBounds_toArray, List.set_cons_zero, List.set_cons_succ]
          refine but_take (f := 20) (i := 3) (v := ?vc3) rfl (by kernel_rfl) (by kernel_rfl) (by kernel_rfl) (by kernel_rfl) (by kernel_rfl) (fun _ _ _ h => h) (Or.inl ⟨(by rfl), ?hyc3⟩) hS0c ?restc3
          case hyc3 =>
            intro W hW
            go_simp
            exact rfl
          simp only [List.getElem_toArray, List.getElem_cons_succ, List.getElem_cons_zero, Act.put, List.setIfInBounds_toArray, List.set_cons_zero, List.set_cons_succ]
          refine but_take (f := 20) (i := 4) (v := ?vc4) rfl (by kernel_rfl) (by kernel_rfl) (by kernel_rfl) (by kernel_rfl) (by kernel_rfl) (fun _ _ _ h => h) (Or.inl ⟨(by rfl), ?hyc4⟩) hS0c ?restc4
          case hyc4 =>
            intro W hW
            go_simp
            exact rfl
          simp only [List.getElem_toArray, List.getElem_cons_succ, List.getElem_cons_zero, Act.put, List.setIfInBounds_toArray, List.set_cons_zero, List.set_cons_succ]
          refine but_take (f := 20) (i := 5) (v := ?vc5) rfl (by kernel_rfl) (by kernel_rfl) (by kernel_rfl) (by kernel_rfl) (by kernel_rfl) (fun _ _ _ h => h) (Or.inl ⟨(by rfl), ?hyc5⟩) hS0c ?restc5
          case hyc5 =>
            intro W hW
            go_simp
            exact rfl
          simp only [List.getElem_toArray, List.getElem_cons_succ, List.getElem_cons_zero, Act.put, List.setIfInBounds_toArray, List.set_cons_zero, List.set_cons_succ]
          refine but_take (f := 20) (i := 6) (v := ?vc6) rfl (by kernel_rfl) (by kernel_rfl) (by kernel_rfl) (by kernel_rfl) (by kernel_rfl) (fun _ _ _ h => h) (Or.inl ⟨(by rfl), ?hyc6⟩) hS0c ?restc6
          case hyc6 =>
            intro W hW
            go_simp
            exact rfl
          simp only [List.getElem_toArray, List.getElem_cons_succ, List.getElem_cons_zero, Act.put, List.setIfInBounds_toArray, List.set_cons_zero, List.set_cons_succ]
          refine but_take (f := 20) (i := 7) (v := ?vc7) rfl (by kernel_rfl) (by kernel_rfl) (by kernel_rfl) (by kernel_rfl) (by kernel_rfl) (fun _ _ _ h => h) (Or.inl ⟨(by rfl), ?hyc7⟩) hS0c ?restc7
          case hyc7 =>
            intro W hW
            obtain ⟨c0, c1, c2⟩ := HF.out.on hbb (bstep BB.out hW)
            go_simp
            exact rfl
          simp only [List.getElem_toArray, List.getElem_cons_succ, List.getElem_cons_zero, Act.put, List.setIfInBounds_toArray, List.set_cons_zero, List.set_cons_succ]
          refine but_take (f := 20) (i := 8) (v := ?vc8) rfl (by kernel_rfl) (by kernel_rfl) (by kernel_rfl) (by kernel_rfl) (by kernel_rfl) (fun _ _ _ h => h) (Or.inl ⟨(by rfl), ?hyc8⟩) hS0c ?restc8
          case hyc8 =>
            intro W hW
            go_simp
            exact rfl
          simp only [List.getElem_toArray, List.getElem_cons_succ, List.getElem_cons_zero, Act.put, List.setIfInBounds_toArray, List.set_cons_zero, List.set_cons_succ]
          refine but_take (f := 20) (i := 9) (v := ?vc9) rfl (by kernel_rfl) (by kernel_rfl) (by kernel_rfl) (by kernel_rfl) (by kernel_rfl) (fun _ _ _ h => h) (Or.inl ⟨(by rfl), ?hyc9⟩) hS0c ?restc9
          case hyc9 =>
            intro W hW
            go_simp
            exact rfl
          simp only [List.getElem_toArray, List.getElem_cons_succ, List.getElem_cons_zero, Act.put, List.setIfInBounds_toArray, List.set_cons_zero, List.set_cons_succ]
          refine but_take (f := 20) (i := 10) (v := ?vc10) rfl (by kernel_rfl) (by kernel_rfl) (by kernel_rfl) (by kernel_rfl) (by kernel_rfl) (fun _ _ _ h => h) (Or.inl ⟨(by rfl), ?hyc10⟩) hS0c ?restc10
          case hyc10 =>
            intro W hW
            go_simp
            exact rfl
          simp only [List.getElem_toArray, List.getElem_cons_succ, List.getElem_cons_zero, Act.put, List.setIfInBounds_toArray, List.set_cons_zero, List.set_cons_succ]
          refine but_take (f := 20) (i := 11) (v := ?vc11) rfl (by kernel_rfl) (by kernel_rfl) (by kernel_rfl) (by kernel_rfl) (by kernel_rfl) (fun _ _ _ h => h) (Or.inl ⟨(by rfl), ?hyc11⟩) hS0c ?restc11
          case hyc11 =>
            intro W hW
            go_simp
            exact rfl
          simp only [List.getElem_toArray, List.getElem_cons_succ, List.getElem_cons_zero, Act.put, List.setIfInBounds_toArray, List.set_cons_zero, List.set_cons_succ]
          refine but_take (f := 20) (i := 12) (v := ?vc12) rfl (by kernel_rfl) (by kernel_rfl) (by kernel_rfl) (by kernel_rfl) (by kernel_rfl) (fun _ _ _ h => h) (Or.inl ⟨(by rfl), ?hyc12⟩) hS0c ?restc12
          case hyc12 =>
            intro W hW
            obtain ⟨c0, c1, c2⟩ := HF.out.on hbb (bstep BB.out hW)
            go_simp
            exact rfl
          simp only [List.getElem_toArray, List.getElem_cons_succ, List.getElem_cons_zero, Act.put, List.setIfInBounds_toArray, List.set_cons_zero, List.set_cons_succ]
          refine but_take (f := 20) (i := 13) (v := ?vc13) rfl (by kernel_rfl) (by kernel_rfl) (by kernel_rfl) (by kernel_rfl) (by kernel_rfl) (fun _ _ _ h => h) (Or.inl ⟨(by rfl), ?hyc13⟩) hS0c ?restc13
          case hyc13 =>
            intro W hW
            go_simp
            exact rfl
          simp only [List.getElem_toArray, List.getElem_cons_succ, List.getElem_cons_zero, Act.put, List.setIfInBounds_toArray, List.set_cons_zero, List.set_cons_succ]
          refine but_run (i := 14) (by kernel_rfl) rfl (by rfl) ?_
          simp only [List.getElem_toArray, List.getElem_cons_succ, List.getElem_cons_zero]
          intro K HK
          go_wp2_with fail
          refine (HRZ.out _ (bstep BB.out (hS0c))).mono ?_
          rintro r Vc1 ⟨u8, rfl, o8, hbc1⟩
          rw [resK_self] at o8
          have hz8p := (hS0c).size
          obtain ⟨A8, c8, hv8, _, _⟩ := o8.reads.lenN
          subst hv8
          have O8 := Lib.hid o8.lt
          clear o8
          go_wp2_with fail
          have hSc1 : (fun V => Below w4.heap.size w4 V) Vc1 := bstep hS0c hbc1
          refine HK.out _ _ (fun _ => hSc1) ?_
          clear HK
          have hzc1 := hbc1.size
          refine but_take (f := 20) (i := 15) (v := ?vc15) rfl (by kernel_rfl) (by kernel_rfl) (by kernel_rfl) (by kernel_rfl) (by kernel_rfl) (fun _ _ _ h => h) (Or.inl ⟨(by rfl), ?hyc15⟩) hSc1 ?restc15
          case hyc15 =>
            intro W hW
            go_simp
            exact rfl
          simp only [List.getElem_toArray, List.getElem_cons_succ, List.getElem_cons_zero, Act.put, List.setIfInBounds_toArray, List.set_cons_zero, List.set_cons_succ]
          refine but_run (i := 16) (by kernel_rfl) rfl (by rfl) ?_
          simp only [List.getElem_toArray, List.getElem_cons_succ, List.getElem_cons_zero]
          intro K HK
          go_wp2_with fail
          refine (HAD.out _ (bstep BB.out (hSc1)) _ _ (O8.out.mono (fun b hb => hb)) (fun b hb => Nat.lt_of_lt_of_le hb.2 (by omega))).mono ?_
          rintro r Vc2 ⟨v9, rfl, o9, hbc2⟩
          have O9 := Lib.hid o9
          clear o9
          go_wp2_with fail
          have hSc2 : (fun V => Below w4.heap.size w4 V) Vc2 := bstep hSc1 hbc2
          refine HK.out _ _ (fun _ => hSc2) ?_
          clear HK
          have hzc2 := hbc2.size
          replace O8 := Lib.hid (O8.out.on hbc2)
          refine but_take (f := 20) (i := 17) (v := ?vc17) rfl (by kernel_rfl) (by kernel_rfl) (by kernel_rfl) (by kernel_rfl) (by kernel_rfl) (fun _ _ _ h => h) (Or.inl ⟨(by rfl), ?hyc17⟩) hSc2 ?restc17
          case hyc17 =>
            intro W hW
            go_simp
            exact rfl
          simp only [List.getElem_toArray, List.getElem_cons_succ, List.getElem_cons_zero, Act.put, List.setIfInBounds_toArray, List.set_cons_zero, List.set_cons_succ]
          refine but_take (f := 20) (i := 18) (v := ?vc18) rfl (by kernel_rfl) (by kernel_rfl) (by kernel_rfl) (by kernel_rfl) (by kernel_rfl) (fun _ _ _ h => h) (Or.inl ⟨(by rfl), ?hyc18⟩) hSc2 ?restc18
          case hyc18 =>
            intro W hW
            go_simp
            exact rfl
          simp only [List.getElem_toArray, List.getElem_cons_succ, List.getElem_cons_zero, Act.put, List.setIfInBounds_toArray, List.set_cons_zero, List.set_cons_succ]
          refine but_run (i := 19) (by kernel_rfl) rfl (by rfl) ?_
          simp only [List.getElem_toArray, List.getElem_cons_succ, List.getElem_cons_zero]
          intro K HK
          go_wp2_with fail
          have hSc3 : (fun V => Below w4.heap.size w4 V) (Vc2) := hSc2
          refine HK.out _ _ (fun _ => hSc3) ?_
          clear HK
          refine but_run (i := 20) (by kernel_rfl) rfl (by rfl) ?_
          simp only [List.getElem_toArray, List.getElem_cons_succ, List.getElem_cons_zero]
          intro K HK
          go_wp2_with fail
          refine HK.out _ _ (fun h => absurd rfl h) ?_
          clear HK
          refine but_done (by kernel_rfl) ?_
          go_wp2
          go_ret2
          exact ⟨v9, by rw [HR.out] <;> rfl, by rw [HR.out]; exact O9.out.mono (fun b hb => by omega), bstep BB.out (hSc3)⟩
set_option maxHeartbeats 4000000 in
theorem specMapSnap_any {t : TypeId} (va : Value) (l : List MapD) (w : World) (hv : Reads w w.heap.size va (mapsT t l)) (hs : SmallM l) (s u : ByteArray) (f : Bool) (hz : s.size ≤ maxLen) (hzu : u.size ≤ maxLen) : Calls Try.prog 26 #[va, .string s, .string u, .bool f] w (NewMC w (snapM s u f l)) := by
  obtain ⟨A, c, rfl, _, _⟩ := Reads.lenN hv
  have hln : l.length ≤ 1100000 := hs.1
  have BB := Lib.hid (Below.refl w.heap.size w)
  have HC := Lib.hid (fun (W : World) (b : Below w.heap.size w W) => l12Copy_any _ l W (hv.on b) hs)
  have HA := Lib.hid (fun (W : World) (b : Below w.heap.size w W) => specMapAt_any _ l s W (hv.on b) hs)
  have HAU := Lib.hid (fun (W : World) (b : Below w.heap.size w W) => specMapAt_any _ l u W (hv.on b) hs)
  have HN := Lib.hid (fun (W : World) => sameB (specNameOk_any s W hz))
  have HNU := Lib.hid (fun (W : World) => sameB (specNameOk_any u W hzu))
  have HR0 : Hid (snapM s u f l = if nameOkB s then (if nameOkB u then (if mapK s l < 0 then (l, 2) else if 0 ≤ mapK u l then (l, 3) else addK l ⟨u, f, (mapD l s).l⟩) else (l, 1)) else (l, 1)) := Lib.hid rfl
  obtain ⟨R, hR⟩ : ∃ R, snapM s u f l = R := ⟨_, rfl⟩
  rw [hR] at HR0 ⊢
  clear hR
  have HP := Lib.hid (fun (h : ¬ mapK s l < 0) => mapK_pos h)
  obtain ⟨K, hK⟩ : ∃ K, mapK s l = K := ⟨_, rfl⟩
  rw [hK] at HA HR0 HP
  obtain ⟨K2, hK2⟩ : ∃ K2, mapK u l = K2 := ⟨_, rfl⟩
  rw [hK2] at HAU HR0
  cases h1 : nameOkB s
  · rw [h1] at HN
    have HR : Hid (R = (l, 1)) := Lib.hid (by rw [HR0.out, h1] <;> rfl)
    clear hv hK hK2 HR0 h1 HAU HNU HP
    go_enter Try.func26, Try.ntmps26
    go_wp2_with fail
    refine (HC.out _ BB.out).mono ?_
    rintro r w1 ⟨vC, rfl, o, b⟩
    have zC := b.size
    replace BB := Lib.hid (bstep BB.out b)
    have OC := Lib.hid o.ownR
    clear o b
    go_wp2_with fail
    refine (HA.out _ BB.out).mono ?_
    rintro r w2 ⟨rfl, b⟩
    have z2 := b.size
    replace OC := Lib.hid (OC.out.on b)
    replace BB := Lib.hid (bstep BB.out b)
    clear b
    go_wp2_with fail
    refine (HN.out _).mono ?_
    rintro r w3 ⟨rfl, b⟩
    have z3 := b.size
    replace OC := Lib.hid (OC.out.on b)
    replace BB := Lib.hid (bstep BB.out b)
    clear b
    go_wp2
    go_ret2
    exact ⟨_, by rw [HR.out] <;> rfl, by rw [HR.out]; exact (OC.out.mono (fun b hb => by omega)), BB.out⟩
  · rw [h1] at HN
    cases h2 : nameOkB u
    · rw [h2] at HNU
      have HR : Hid (R = (l, 1)) := Lib.hid (by rw [HR0.out, h1, h2] <;> rfl)
      clear hv hK hK2 HR0 h1 h2 HAU HP
      go_enter Try.func26, Try.ntmps26
      go_wp2_with fail
      refine (HC.out _ BB.out).mono ?_
      rintro r w1 ⟨vC, rfl, o, b⟩
      have zC := b.size
      replace BB := Lib.hid (bstep BB.out b)
      have OC := Lib.hid o.ownR
      clear o b
      go_wp2_with fail
      refine (HA.out _ BB.out).mono ?_
      rintro r w2 ⟨rfl, b⟩
      have z2 := b.size
      replace OC := Lib.hid (OC.out.on b)
      replace BB := Lib.hid (bstep BB.out b)
      clear b
      go_wp2_with fail
      refine (HN.out _).mono ?_
      rintro r w3 ⟨rfl, b⟩
      have z3 := b.size
      replace OC := Lib.hid (OC.out.on b)
      replace BB := Lib.hid (bstep BB.out b)
      clear b
      go_wp2_with fail
      refine (HNU.out _).mono ?_
      rintro r w4 ⟨rfl, b⟩
      have z4 := b.size
      replace OC := Lib.hid (OC.out.on b)
      replace BB := Lib.hid (bstep BB.out b)
      clear b
      go_wp2
      go_ret2
      exact ⟨_, by rw [HR.out] <;> rfl, by rw [HR.out]; exact (OC.out.mono (fun b hb => by omega)), BB.out⟩
    · rw [h2] at HNU
      by_cases h3 : K < 0
      · have HR : Hid (R = (l, 2)) := Lib.hid (by rw [HR0.out, h1, h2, if_pos h3] <;> rfl)
        clear hv hK hK2 HR0 h1 h2 HAU HP
        go_enter Try.func26, Try.ntmps26
        go_wp2_with fail
        refine (HC.out _ BB.out).mono ?_
        rintro r w1 ⟨vC, rfl, o, b⟩
        have zC := b.size
        replace BB := Lib.hid (bstep BB.out b)
        have OC := Lib.hid o.ownR
        clear o b
        go_wp2_with fail
        refine (HA.out _ BB.out).mono ?_
        rintro r w2 ⟨rfl, b⟩
        have z2 := b.size
        replace OC := Lib.hid (OC.out.on b)
        replace BB := Lib.hid (bstep BB.out b)
        clear b
        go_wp2_with fail
        refine (HN.out _).mono ?_
        rintro r w3 ⟨rfl, b⟩
        have z3 := b.size
        replace OC := Lib.hid (OC.out.on b)
        replace BB := Lib.hid (bstep BB.out b)
        clear b
        go_wp2_with fail
        refine (HNU.out _).mono ?_
        rintro r w4 ⟨rfl, b⟩
        have z4 := b.size
        replace OC := Lib.hid (OC.out.on b)
        replace BB := Lib.hid (bstep BB.out b)
        clear b
        go_wp2
        go_ret2
        exact ⟨_, by rw [HR.out] <;> rfl, by rw [HR.out]; exact (OC.out.mono (fun b hb => by omega)), BB.out⟩
      · by_cases h4 : 0 ≤ K2
        · have HR : Hid (R = (l, 3)) := Lib.hid (by rw [HR0.out, h1, h2, if_neg h3, if_pos h4] <;> rfl)
          have d4 : decide (K2 ≥ 0) = true := decide_eq_true h4
          clear hv hK hK2 HR0 h1 h2 HP
          go_enter Try.func26, Try.ntmps26
          go_wp2_with fail
          refine (HC.out _ BB.out).mono ?_
          rintro r w1 ⟨vC, rfl, o, b⟩
          have zC := b.size
          replace BB := Lib.hid (bstep BB.out b)
          have OC := Lib.hid o.ownR
          clear o b
          go_wp2_with fail
          refine (HA.out _ BB.out).mono ?_
          rintro r w2 ⟨rfl, b⟩
          have z2 := b.size
          replace OC := Lib.hid (OC.out.on b)
          replace BB := Lib.hid (bstep BB.out b)
          clear b
          go_wp2_with fail
          refine (HN.out _).mono ?_
          rintro r w3 ⟨rfl, b⟩
          have z3 := b.size
          replace OC := Lib.hid (OC.out.on b)
          replace BB := Lib.hid (bstep BB.out b)
          clear b
          go_wp2_with fail
          refine (HNU.out _).mono ?_
          rintro r w4 ⟨rfl, b⟩
          have z4 := b.size
          replace OC := Lib.hid (OC.out.on b)
          replace BB := Lib.hid (bstep BB.out b)
          clear b
          go_wp2_with fail
          refine (HAU.out _ BB.out).mono ?_
          rintro r w5 ⟨rfl, b⟩
          have z5 := b.size
          replace OC := Lib.hid (OC.out.on b)
          replace BB := Lib.hid (bstep BB.out b)
          clear b
          go_wp2
          go_ret2
          exact ⟨_, by rw [HR.out] <;> rfl, by rw [HR.out]; exact (OC.out.mono (fun b hb => by omega)), BB.out⟩
        · have d4 : decide (K2 ≥ 0) = false := decide_eq_false h4
          obtain ⟨hKJ, hJ⟩ := HP.out h3
          subst hKJ
          have HMD := Lib.hid (mapD_at hJ)
          obtain ⟨ab, off, rfl, hbb, hcc⟩ := hv.maps hJ
          obtain ⟨Aj, cj, hf, _, _, rj⟩ := hcc _ hJ
          have HF := Lib.hid hf
          have RJ := Lib.hid rj
          clear hcc hf rj
          by_cases h6 : 6 ≤ l.length
          · have d6 : decide ((l.length : Int) ≥ 6) = true := decide_eq_true (by omega)
            have HR : Hid (R = (l, 6)) := Lib.hid (by rw [HR0.out, h1, h2, if_neg h3, if_neg h4]; unfold addK; rw [if_pos h6] <;> rfl)
            clear hv hK hK2 HR0 h1 h2 HP
            go_enter Try.func26, Try.ntmps26
            go_wp2_with fail
            refine (HC.out _ BB.out).mono ?_
            rintro r w1 ⟨vC, rfl, o, b⟩
            have zC := b.size
            replace BB := Lib.hid (bstep BB.out b)
            have OC := Lib.hid o.ownR
            clear o b
            go_wp2_with fail
            refine (HA.out _ BB.out).mono ?_
            rintro r w2 ⟨rfl, b⟩
            have z2 := b.size
            replace OC := Lib.hid (OC.out.on b)
            replace BB := Lib.hid (bstep BB.out b)
            clear b
            go_wp2_with fail
            refine (HN.out _).mono ?_
            rintro r w3 ⟨rfl, b⟩
            have z3 := b.size
            replace OC := Lib.hid (OC.out.on b)
            replace BB := Lib.hid (bstep BB.out b)
            clear b
            go_wp2_with fail
            refine (HNU.out _).mono ?_
            rintro r w4 ⟨rfl, b⟩
            have z4 := b.size
            replace OC := Lib.hid (OC.out.on b)
            replace BB := Lib.hid (bstep BB.out b)
            clear b
            go_wp2_with fail
            refine (HAU.out _ BB.out).mono ?_
            rintro r w5 ⟨rfl, b⟩
            have z5 := b.size
            replace OC := Lib.hid (OC.out.on b)
            replace BB := Lib.hid (bstep BB.out b)
            clear b
            go_wp2
            go_ret2
            exact ⟨_, by rw [HR.out] <;> rfl, by rw [HR.out]; exact (OC.out.mono (fun b hb => by omega)), BB.out⟩
          · have d6 : decide ((l.length : Int) ≥ 6) = false := decide_eq_false (by omega)
            have HR : Hid (R = (insM l (bubM l l.length u) ⟨u, f, (mapD l s).l⟩, 0)) := Lib.hid (by rw [HR0.out, h1, h2, if_neg h3, if_neg h4]; unfold addK; rw [if_neg h6] <;> rfl)
            rw [HMD.out] at HR
            have hlj := (hs.at hJ).2
            have HAD := Lib.hid (fun (W : World) (b : Below w.heap.size w W) (um : Value) (T : Nat → Prop) (hu : Owns W T um (intsD (l[mapJ s l]).l)) (hT : ∀ b, T b → b < W.heap.size) => l12Put_any _ l ⟨u, f, (l[mapJ s l]).l⟩ um T W (hv.on b) hs hu hT)
            have HAT := Lib.hid (fun (W : World) (b : Below w.heap.size w W) => (RJ.out.on b).ints_at)
            generalize l[mapJ s l] = x at *
            generalize mapJ s l = J at *
            have i1 : (J : Int) < (l.length : Int) := by omega
            have i2 : (0 : Int) ≤ (J : Int) := by omega
            clear hv HR0 h1 h2 hK hK2 HP HMD
            go_enter Try.func26, Try.ntmps26
            go_wp2_with fail
            refine (HC.out _ BB.out).mono ?_
            rintro r w1 ⟨vC, rfl, o, b⟩
            have zC := b.size
            replace BB := Lib.hid (bstep BB.out b)
            have OC := Lib.hid o.ownR
            clear o b
            go_wp2_with fail
            refine (HA.out _ BB.out).mono ?_
            rintro r w2 ⟨rfl, b⟩
            have z2 := b.size
            replace OC := Lib.hid (OC.out.on b)
            replace BB := Lib.hid (bstep BB.out b)
            clear b
            go_wp2_with fail
            refine (HN.out _).mono ?_
            rintro r w3 ⟨rfl, b⟩
            have z3 := b.size
            replace OC := Lib.hid (OC.out.on b)
            replace BB := Lib.hid (bstep BB.out b)
            clear b
            go_wp2_with fail
            refine (HNU.out _).mono ?_
            rintro r w4 ⟨rfl, b⟩
            have z4 := b.size
            replace OC := Lib.hid (OC.out.on b)
            replace BB := Lib.hid (bstep BB.out b)
            clear b
            go_wp2_with fail
            refine (HAU.out _ BB.out).mono ?_
            rintro r w5 ⟨rfl, b⟩
            have z5 := b.size
            replace OC := Lib.hid (OC.out.on b)
            replace BB := Lib.hid (bstep BB.out b)
            clear b
            have hzz := BB.out.size
            obtain ⟨c0, c1, c2⟩ := HF.out.on hbb (bstep BB.out (bal1 w5 (.cells #[] 3)))
            have ro0 := RowI.lit w5
            have hat0 := HAT.out _ (bstep BB.out (bal1 w5 (.cells #[] 3)))
            have hzl : w5.heap.size ≤ (w5.alloc (.cells #[] 3)).heap.size := by simp
            go_wp2_with (first | (at_builtin; refine wpList_appI _ rfl (.tmp 45) (.tmp 50) rfl w5.heap.size _ [] rfl ro0 _ _ _ x.l rfl rfl hat0 (by simp; omega) hzl ?_; intro v8 w8 o8 b8; rw [List.nil_append] at o8; obtain ⟨A8, c8, hv8, _, _⟩ := o8.shape; subst hv8) | fail)
            have B8 : Hid (Below w5.heap.size w5 w8) := Lib.hid ((bal1 w5 (.cells #[] 3)).trans b8)
            have O8 := Lib.hid o8.owns.lt
            have HAD2 := Lib.hid (HAD.out _ (bstep BB.out B8.out) _ _ O8.out (fun b hb => hb.2))
            clear o8 b8 hat0 ro0 HAD HN HNU HA HAU HC HAT OC
            go_wp2_with fail
            refine HAD2.out.mono ?_
            rintro e w9 ⟨v9, rfl, o9, b9⟩
            have O9 := Lib.hid o9
            have hz8 := B8.out.size
            have B9 := Lib.hid (bstep (bstep BB.out B8.out) b9)
            clear o9 b9 HAD2 c0 c1 c2
            go_wp2
            go_ret2
            exact ⟨v9, by rw [HR.out] <;> rfl, by rw [HR.out]; exact O9.out.mono (fun b hb => by omega), B9.out⟩
end Go.Proofs.Ytcimpcocgmlmoaa
