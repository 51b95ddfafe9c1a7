/- The contract for spec.KeysOf. Conditions: at most 2^20 nodes and keys. -/
import Derived.Test.YthopkhpiikiknaaSeeDel
namespace Go.Proofs.Ythopkhpiikiknaa
open Go.RowKit
set_option maxRecDepth 100000
set_option linter.unusedSimpArgs false
set_option linter.unusedVariables false

theorem wpList_appK2 {ops : Array Oper} {rest : List Oper} {o : Oper} {a : Act} {Q : Exit → Act → World → Prop} (w : World) (hgd : o.guard = none) (s x : Operand)
    (hop : o.op = .call { callee := .builtin .append, args := #[s, x], argTypes := #[36, 36] })
    (base : Nat) (v : Value) (l : List KeyD) (hs : a.eval s = v) (hown : RowK w base v l) (A : Option Addr) (n c : Nat) (m : List KeyD) (hx : a.eval x = .slice A n c) (hmn : m.length = n) (hA : At w A (kvl m)) (hlen : l.length + m.length ≤ 1073741824) (hbase : base ≤ w.heap.size)
    (h : ∀ v' w', RowK w' base v' (l ++ m) → w.grownBy w' v.ownBlock → (v'.ownBlock = v.ownBlock ∨ v'.ownBlock = some w.heap.size) → wpList Try.prog ops Q rest (a.put o.dst v') w') : wpList Try.prog ops Q (o :: rest) a w := by
  subst hmn
  refine wpList_appV w hgd s x 36 32 5 40 (.agg #[.int .i64 0, .int .i64 0, .int .i64 0, .int .i64 0, .int .i64 0]) hop Try.underlying36 key_info rfl (by omega) (by omega) base l.length v (kvl l) hs hown A m.length c (kvl m) hx (kvl_len m) hA (kvl_cells m) hlen hbase ?_
  intro v' w' h2 h3 h4 h5
  refine h v' w' ?_ h3 h5
  rw [← kvl_append, ← List.length_append] at h2
  exact h2
/-- Two rows of the call's own, side by side: one that grows, one that stays. -/
structure TwoK (base : Nat) (W wr : World) (o v : Value) (m l : List KeyD) : Prop where
  grows : RowK wr base o m
  stays : RowK wr base v l
  apart : ∀ g, o.ownBlock = some g → v.ownBlock ≠ some g
  bel : Below W.heap.size W wr
  low : W.heap.size ≤ base
theorem TwoK.step {base : Nat} {W wr w1 : World} {o v v1 : Value} {m l : List KeyD} {x : KeyD} {e : TypeId} (h : TwoK base W wr o v m l) (hb : base ≤ wr.heap.size)
    (h1 : RowK w1 base v1 (m ++ [x])) (h2 : (wr.alloc (.cells #[.int .i64 x.a, .int .i64 x.b, .int .i64 x.c, .int .i64 x.d, .int .i64 x.e] e)).grownBy w1 o.ownBlock) (h3 : v1.ownBlock = o.ownBlock ∨ v1.ownBlock = some (wr.alloc (.cells #[.int .i64 x.a, .int .i64 x.b, .int .i64 x.c, .int .i64 x.d, .int .i64 x.e] e)).heap.size) : TwoK base W w1 v1 v (m ++ [x]) l := by
  have ba := bal1 wr (.cells #[.int .i64 x.a, .int .i64 x.b, .int .i64 x.c, .int .i64 x.d, .int .i64 x.e] e)
  have hsz : (wr.alloc (.cells #[.int .i64 x.a, .int .i64 x.b, .int .i64 x.c, .int .i64 x.d, .int .i64 x.e] e)).heap.size = wr.heap.size + 1 := by simp
  refine ⟨h1, h.stays.keep (fun g hg => ?_), fun g hg hv => ?_, (h.bel.trans (ba.mono h.bel.size)).grown h2 (by have := h.bel.size; omega) (fun k hk => Nat.le_trans h.low (h.grows.lt k hk).2), h.low⟩
  · have hlt := (h.stays.lt g hg).1
    exact (h2.block g (by omega) (fun e => h.apart g e.symm hg)).trans (ba.block g hlt)
  · have hlt := (h.stays.lt g hv).1
    rcases h3 with h3 | h3
    · exact h.apart g (h3.symm.trans hg) hv
    · rw [h3] at hg
      injection hg with hg
      omega
theorem TwoK.on {base : Nat} {W wr w1 : World} {o v : Value} {m l : List KeyD} (h : TwoK base W wr o v m l) (hb : base ≤ wr.heap.size) (b : Below wr.heap.size wr w1) : TwoK base W w1 o v m l :=
  ⟨h.grows.on b, h.stays.on b, h.apart, h.bel.trans (b.mono h.bel.size), h.low⟩
set_option maxHeartbeats 2000000 in
theorem specKeysOf_any (vl vn : Value) (lo : List Int) (ts : List NodeD) (p : Int) (w : World) (hv : RdT w w.heap.size vl vn lo ts) (hn : ts.length ≤ 1048576) (hs : sumT ts ≤ 1048576) :
    Calls Try.prog 15 #[.agg #[vl, vn], .int .i64 p] w (NewK w (keysOfK ts p)) := by
  obtain ⟨A, c, A', c', rfl, rfl⟩ := hv.shape
  have hb1 := bal2 w (.cells #[.slice A lo.length c, .slice A' ts.length c'] 27) (.cells #[] 32)
  have HV := Lib.hid (hv.on hb1)
  have HB := Lib.hid hb1
  have Q0 := Lib.hid (al2 w (.cells #[.slice A lo.length c, .slice A' ts.length c'] 27) (.cells #[] 32)).1
  have Q1 := Lib.hid (RowK.lit (w.alloc (.cells #[.slice A lo.length c, .slice A' ts.length c'] 27)))
  have HKL := Lib.hid (treeKeys_len ts)
  have HZ0 := Lib.hid (show (w.alloc (.cells #[.slice A lo.length c, .slice A' ts.length c'] 27)).heap.size = w.heap.size + 1 by simp)
  have HZ1 := Lib.hid (show ((w.alloc (.cells #[.slice A lo.length c, .slice A' ts.length c'] 27)).alloc (.cells #[] 32)).heap.size = w.heap.size + 1 + 1 by simp)
  unfold keysOfK
  obtain ⟨L, hL⟩ : ∃ L, treeKeysK ts = L := ⟨_, rfl⟩
  rw [hL] at HKL ⊢
  obtain ⟨R, hR⟩ : ∃ R, L.filter (fun k => k.a == p) = R := ⟨_, rfl⟩
  rw [hR]
  have HL := Lib.hid hL
  have HR := Lib.hid hR
  rw [HZ0.out] at Q1
  clear hv hb1 hL hR HZ0
  go_enter Try.func15, Try.ntmps15
  go_upto_region 2 with (fail)
  generalize (w.alloc (.cells #[.slice A lo.length c, .slice A' ts.length c'] 27)).alloc (.cells #[] 32) = W at *
  obtain ⟨x0, x1, x2⟩ := box2 Q0.out
  go_wp2_with fail
  refine (specTreeKeys_any _ _ lo ts _ HV.out hn hs).mono ?_
  rintro r w1 ⟨v1, rfl, o1, b1⟩
  rw [HL.out] at o1
  obtain ⟨A1, c1, rfl, _, _⟩ := o1.shape
  have HX := Lib.hid (show TwoK (w.heap.size + 1) w w1 (.slice (some ⟨w.heap.size + 1, 0, none⟩) 0 0) (.slice A1 L.length c1) [] L from ⟨Q1.out.on b1, o1.mono (by have := HZ1.out; omega), fun g hg hv => by
    have h1 := (o1.lt g hv).2
    have h2 := HZ1.out
    simp only [Value.ownBlock] at hg
    injection hg with hg
    omega, bstep HB.out b1, Nat.le_succ _⟩)
  have HZ := Lib.hid (show w.heap.size + 1 ≤ w1.heap.size by have := HZ1.out; have := b1.size; omega)
  have hL2 : L.length ≤ 1048576 := by have := HKL.out; omega
  clear o1 b1 x0 x1 x2 HV Q0 Q1 HB HZ1
  go_wp2
  go_loopw [5, 7] (fun o i wr => ∃ (k : Nat) (m : List KeyD), k ≤ L.length ∧ i = .int .i64 k ∧ Hid (m.length ≤ k) ∧ Hid (m ++ (L.drop k).filter (fun x => x.a == p) = R) ∧ Hid (TwoK (w.heap.size + 1) w wr o (.slice A1 L.length c1) m L) ∧ Hid (w.heap.size + 1 ≤ wr.heap.size)) (fun _ i _ => L.length - (intOf i).toNat)
  case atStart => exact ⟨0, [], Nat.zero_le _, rfl, Lib.hid (Nat.zero_le _), Lib.hid HR.out, HX, HZ⟩
  case round =>
    clear HX HZ
    obtain ⟨k, m, hk, rfl, HM, HI, HX, HZ⟩ := hrel
    obtain ⟨Ao, co, rfl, _, _⟩ := HX.out.grows.shape
    by_cases hlt : k < L.length
    · obtain ⟨b, off, rfl, hbb, hc⟩ := HX.out.stays.owns.reads.keys hlt
      have i1 : (k : Int) < (L.length : Int) := by omega
      have i2 : (0 : Int) ≤ (k : Int) := by omega
      obtain ⟨c0, c1, c2, c3, c4⟩ := hc k hlt
      clear hc
      cases hs : ((L[k]).a == p)
      · have HS := Lib.hid hs
        go_wp2
        go_roundw
        case rel => exact ⟨k + 1, m, by omega, by go_num, Lib.hid (Nat.le_succ_of_le HM.out), Lib.hid (filt_no (p := fun x => x.a == p) hlt HS.out HI.out), HX, HZ⟩
        case measure => simp [intOf]; omega
      · have HS := Lib.hid hs
        have ba := bal1 wr (.cells #[.int .i64 (L[k]).a, .int .i64 (L[k]).b, .int .i64 (L[k]).c, .int .i64 (L[k]).d, .int .i64 (L[k]).e] 32)
        have HRow := Lib.hid (HX.out.grows.on ba)
        have HAt := Lib.hid (At.key wr L[k] 32)
        have hzz : (wr.alloc (.cells #[.int .i64 (L[k]).a, .int .i64 (L[k]).b, .int .i64 (L[k]).c, .int .i64 (L[k]).d, .int .i64 (L[k]).e] 32)).heap.size = wr.heap.size + 1 := by simp
        have HZ2 := Lib.hid (show w.heap.size + 1 ≤ (wr.alloc (.cells #[.int .i64 (L[k]).a, .int .i64 (L[k]).b, .int .i64 (L[k]).c, .int .i64 (L[k]).d, .int .i64 (L[k]).e] 32)).heap.size by have := HZ.out; omega)
        clear ba hzz
        go_wp2_with (at_builtin; refine wpList_appK2 _ rfl (.tmp 24) (.tmp 29) rfl (w.heap.size + 1) _ m rfl HRow.out (some ⟨wr.heap.size, 0, none⟩) 1 1 [L[k]] rfl rfl HAt.out (by have := HM.out; simp; omega) HZ2.out ?_; intro v1 w1 o1 g1 e1; clear HRow HAt)
        have HX2 := Lib.hid (HX.out.step HZ.out o1 g1 e1)
        have HZ3 := Lib.hid (Nat.le_trans HZ2.out g1.size)
        clear o1 g1 e1
        go_roundw
        case rel => exact ⟨k + 1, m ++ [L[k]], by omega, by go_num, Lib.hid (by have := HM.out; simp; omega), Lib.hid (filt_yes (p := fun x => x.a == p) hlt HS.out HI.out), HX2, HZ3⟩
        case measure => simp [intOf]; omega
    · have e : m = R := by
        have := HI.out
        rw [List.drop_eq_nil_of_le (by omega)] at this
        simpa using this
      subst e
      go_wp2
      go_ret
      exact ⟨_, rfl, HX.out.grows.mono (by omega), HX.out.bel⟩
end Go.Proofs.Ythopkhpiikiknaa
