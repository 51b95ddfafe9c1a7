/- The walk of FnCrc: at every code the call returns true and writes nothing that was there: a byte that is changed changes the checksum. No condition. -/
import Derived.Test.YtepoofamlpbchaaCrc
import Derived.Test.YtepoofamlpbchaaDraws1
import Derived.StillTailTactics
namespace Go.Proofs.Ytepoofamlpbchaa
open Go.RowKit

theorem bit31 {a : Nat} (h : a < 2147483648) : a.testBit 31 = false := Nat.testBit_lt_two_pow (by omega)
theorem poly31 : (2197175160 : Nat).testBit 31 = true := by decide
theorem xor_can {a b c : Nat} (h : a ^^^ c = b ^^^ c) : a = b := by
  have h2 := congrArg (· ^^^ c) h
  simpa [Nat.xor_assoc] using h2
theorem xor_can' {a b c : Nat} (h : c ^^^ a = c ^^^ b) : a = b := by
  rw [Nat.xor_comm c a, Nat.xor_comm c b] at h; exact xor_can h
theorem st_inj {a b : Nat} (ha : a < 4294967296) (hb : b < 4294967296) (h : st a = st b) : a = b := by
  by_cases ea : a % 2 = 1 <;> by_cases eb : b % 2 = 1
  · rw [st_odd ea, st_odd eb] at h
    have := xor_can h
    omega
  · rw [st_odd ea, st_even eb] at h
    have h1 : (a / 2 ^^^ 2197175160).testBit 31 = true := by rw [Nat.testBit_xor, bit31 (by omega), poly31]; rfl
    rw [h, bit31 (by omega)] at h1
    cases h1
  · rw [st_even ea, st_odd eb] at h
    have h1 : (b / 2 ^^^ 2197175160).testBit 31 = true := by rw [Nat.testBit_xor, bit31 (by omega), poly31]; rfl
    rw [← h, bit31 (by omega)] at h1
    cases h1
  · rw [st_even ea, st_even eb] at h
    omega
theorem sts_inj {a b : Nat} (ha : a < 4294967296) (hb : b < 4294967296) (k : Nat) (h : sts a k = sts b k) : a = b := by
  induction k with
  | zero => exact h
  | succ k ih => exact ih (st_inj (sts_lt ha k) (sts_lt hb k) h)
theorem cb_inj {x y : Nat} (hx : x < 4294967296) (hy : y < 4294967296) {c : UInt8} (h : cb x c = cb y c) : x = y :=
  xor_can (sts_inj (xor_lt hx (u8_lt32 c)) (xor_lt hy (u8_lt32 c)) 8 h)
theorem cb_inj2 {x : Nat} (hx : x < 4294967296) {c d : UInt8} (h : cb x c = cb x d) : c = d :=
  UInt8.toNat_inj.1 (xor_can' (sts_inj (xor_lt hx (u8_lt32 c)) (xor_lt hx (u8_lt32 d)) 8 h))
theorem fold_inj (l : List UInt8) : ∀ x y, x < 4294967296 → y < 4294967296 → l.foldl cb x = l.foldl cb y → x = y := by
  induction l with
  | nil => intro x y _ _ h; exact h
  | cons c l ih => intro x y hx hy h; exact cb_inj hx hy (ih _ _ (cb_lt hx c) (cb_lt hy c) h)
theorem crcOf_turned (l : List UInt8) (j : Nat) (hj : j < l.length) (c : UInt8) (hc : c ≠ l[j]) : crcOf (l.set j c) ≠ crcOf l := by
  intro h
  have h1 : reg (l.set j c) = reg l := xor_can' h
  have e1 : l.set j c = l.take j ++ c :: l.drop (j + 1) := by rw [List.set_eq_take_append_cons_drop, if_pos hj]
  have e2 : l = l.take j ++ l[j] :: l.drop (j + 1) := by rw [← List.drop_eq_getElem_cons hj, List.take_append_drop]
  have e3 : reg l = (l.drop (j + 1)).foldl cb (cb (reg (l.take j)) l[j]) := by
    conv => lhs; rw [e2]
    simp only [reg, List.foldl_append, List.foldl_cons]
  have e4 : reg (l.set j c) = (l.drop (j + 1)).foldl cb (cb (reg (l.take j)) c) := by
    rw [e1]
    simp only [reg, List.foldl_append, List.foldl_cons]
  rw [e3, e4] at h1
  exact hc (cb_inj2 (reg_lt _) (fold_inj _ _ _ (cb_lt (reg_lt _) _) (cb_lt (reg_lt _) _) h1))
/-- What laws.at answers. -/
def atOf (l : List UInt8) (i : Nat) : Nat := if h : i < l.length then l[i].toNat else (i * 31 + l.length * 7) % 256
theorem atOf_le (l : List UInt8) (i : Nat) : atOf l i ≤ 255 := by
  unfold atOf; split
  · have := UInt8.toNat_lt (l[i]'(by assumption)); omega
  · omega
theorem at_val (A : Option Addr) (cap : Nat) (l : List UInt8) (i : Nat) (w : World) (hr : Rd w w.heap.size A l) (hn : l.length ≤ 1048576) (hi : i ≤ 1048576) :
    Calls Try.prog 24 #[.slice A l.length cap, .int .i64 (i : Int)] w fun e w' => e = .returned (.int .i64 (atOf l i : Nat)) ∧ w' = w := by
  by_cases hlt : i < l.length
  · have HA : Hid (atOf l i = l[i].toNat) := Lib.hid (by unfold atOf; rw [dif_pos hlt])
    obtain ⟨b, off, rfl, hbb, hc⟩ := hr.at_ hlt
    have c1 := hc i hlt
    obtain ⟨x0, x1⟩ := u8_le l[i]
    clear hc hr
    go_enter Try.func24, Try.ntmps24
    go_wp2
    go_ret
    exact ⟨ret_intB (by rw [HA.out]), rfl⟩
  · have HA : Hid (((atOf l i : Nat) : Int) = ((i : Int) * 31 + (l.length : Int) * 7) % 256) := Lib.hid (by unfold atOf; rw [dif_neg hlt]; omega)
    go_enter Try.func24, Try.ntmps24
    go_wp2
    go_ret
    exact ⟨ret_intB HA.out.symm, rfl⟩

theorem xor_byte (x : UInt8) (r : Nat) (hr : r < 255) : bits .xor .u8 (x.toNat : Int) (IntKind.u8.wrap (IntKind.i64.wrap (1 + (r : Int)))) = ((x ^^^ UInt8.ofNat (1 + r)).toNat : Int) := by
  have h1 : IntKind.u8.wrap (IntKind.i64.wrap (1 + (r : Int))) = ((1 + r : Nat) : Int) := by rw [IntKind.wrap_u8, IntKind.wrap_i64]; omega
  rw [h1, u8_xor_nat _ _ (UInt8.toNat_lt x) (by omega), UInt8.toNat_xor, UInt8.toNat_ofNat_of_lt' (show 1 + r < UInt8.size by simp [UInt8.size]; omega)]
theorem xor_ne (x : UInt8) (r : Nat) (hr : r < 255) : x ^^^ UInt8.ofNat (1 + r) ≠ x := by
  intro h
  have h2 := congrArg UInt8.toNat h
  rw [UInt8.toNat_xor, UInt8.toNat_ofNat_of_lt' (show 1 + r < UInt8.size by simp [UInt8.size]; omega)] at h2
  have h3 : x.toNat ^^^ (1 + r) = x.toNat ^^^ 0 := by rw [h2, Nat.xor_zero]
  have := xor_can' h3
  omega
theorem Own.put {w : World} {g j : Nat} {v : Value} {l : List UInt8} (h : Own w g v l) (c : UInt8) : Own (w.setCell ⟨g, j, none⟩ (.int .u8 (c.toNat : Int))) g v (l.set j c) := by
  obtain ⟨cap, cur, hv, hg, h1, h2, h3, h4⟩ := h
  refine ⟨cap, cur.setIfInBounds j (.int .u8 (c.toNat : Int)), by simpa using hv, heap_setCell_same w g j cur _ _ hg, by simpa using h1, h2, by simpa using h3, ?_⟩
  simp only [Array.toList_setIfInBounds, List.length_set, List.take_set, h4, bv, List.map_set]
theorem tmod_nat (a b : Nat) : Int.tmod (a : Int) (b : Int) = ((a % b : Nat) : Int) := by rw [← Int.ofNat_tmod]
set_option maxHeartbeats 1000000 in
set_option maxRecDepth 100000 in
theorem crc_walk (a0 : Option Addr) (len0 cap0 : Nat) (z0 : List Int) (w : World) (w0 : CameIn .u8 w a0 len0 cap0 z0) :
    Calls Try.prog 4 #[.slice a0 len0 cap0] w fun e w' => e = .returned (.bool true) ∧ Below w.heap.size w w' := by
  obtain ⟨l, rfl, hr⟩ := w0.rd
  clear w0
  by_cases hbig : l.length ≤ 1048576
  · have d0 : decide ((1048576 : Int) < (l.length : Int)) = false := decide_eq_false (by omega)
    go_enter Try.func4, Try.ntmps4
    go_wp2_with fail
    refine (big_any _ _ _ _).mono ?_
    rintro e w1 ⟨rfl, rfl⟩
    rw [d0]
    go_wp2_with fail
    refine (drawCrc_any _ _ l _ hr hbig).mono ?_
    rintro e w1 ⟨g1, v1, b, rfl, o1, hb3, hg1, b1⟩
    obtain ⟨c1, rfl, hc1, _⟩ := o1.rd
    go_wp2_with fail
    refine (implCrc_any _ _ b _ o1.all (by omega)).mono ?_
    rintro e w2 ⟨rfl, rfl⟩
    go_wp2_with fail
    refine (specCrc_any _ _ b _ o1.all (by omega)).mono ?_
    rintro e w2 ⟨rfl, rfl⟩
    have hlt := crcOf_lt b
    have d1 : decide (((crcOf b : Nat) : Int) < 0) = false := decide_eq_false (by omega)
    have d2 : decide ((4294967295 : Int) < ((crcOf b : Nat) : Int)) = false := decide_eq_false (by omega)
    by_cases h0 : b.length = 0
    · have hb0 : b = [] := List.eq_nil_of_length_eq_zero h0
      subst hb0
      have hz : crcOf [] = 0 := by decide
      rw [hz]
      rw [hz] at hlt d1 d2
      clear hlt hz
      go_wp2
      go_ret
      exact ⟨rfl, b1⟩
    · have d3 : ((b.length : Int) == 0) = false := by rw [beq_eq_false_iff_ne]; omega
      have hb0 := (Below.refl w1.heap.size w1).alloc (Nat.le_refl _) (.cells #[] 5)
      have o10 := o1.on hb0
      have r10 := o10.all
      have ho0 := Own.litB w1
      have HC : Hid (∀ (j : Nat) (hj : j < b.length) (c : UInt8), c ≠ b[j] → crcOf (b.set j c) ≠ crcOf b) := Lib.hid (crcOf_turned b)
      generalize crcOf b = cr at *
      have HB := Lib.hid hb0
      clear hb0 h0
      go_wp2_with (at_builtin; refine wpList_appB _ rfl (.tmp 29) (.tmp 30) rfl w1.heap.size w1.heap.size _ [] rfl ho0 (Nat.le_refl _) _ _ b b.length c1 rfl rfl r10 (fun h => by cases h) (by simp; omega) ?_; intro v2 w2 g2 o2 hg2 b2 _ _)
      rw [List.nil_append] at o2
      obtain ⟨c2, rfl, hc2, _⟩ := o2.rd
      have bb2 := bstep b1 (HB.out.trans (b2.mono (Nat.le_refl _)))
      have r2 := hr.on bb2
      have H2 := Lib.hid (at_val a0 cap0 l 2 w2.drew r2 hbig (by omega))
      have H3 := Lib.hid (at_val a0 cap0 l 3 w2.drew r2 hbig (by omega))
      have q2 := atOf_le l 2
      have q3 := atOf_le l 3
      generalize atOf l 2 = a2 at H2 q2
      generalize atOf l 3 = a3 at H3 q3
      have hbl : 0 < b.length := by have h := beq_eq_false_iff_ne.1 d3; omega
      have hj := Nat.mod_lt a2 hbl
      have hr3 := Nat.mod_lt a3 (show 0 < 255 by omega)
      have m2 := tmod_nat a2 b.length
      have m3 : Int.tmod (a3 : Int) 255 = ((a3 % 255 : Nat) : Int) := tmod_nat a3 255
      generalize a2 % b.length = j at hj m2
      generalize a3 % 255 = r at hr3 m3
      clear b1 b2 HB r10 o10 ho0 r2
      obtain ⟨_, hv2, _, rr2⟩ := o2.rd
      clear hv2
      have hbne : ¬ b = [] := fun h => by rw [h] at hbl; simp at hbl
      obtain ⟨_, _, he, _, hcc⟩ := rr2.at_ hj
      simp only [Option.some.injEq, Addr.mk.injEq, and_true] at he
      obtain ⟨rfl, rfl⟩ := he
      have cj := hcc j hj
      rw [Nat.zero_add] at cj
      have hij : (j : Int) < (b.length : Int) := by omega
      have hij0 : (0 : Int) ≤ (j : Int) := by omega
      clear hcc rr2
      refine wp_region_still_tail 15 (by kernel_rfl) (by kernel_rfl) ?_
      simp only [List.take_succ_cons, List.take_zero, List.drop_succ_cons, List.drop_zero]
      repeat still_step
      still_call H2.out
      repeat still_step
      still_call H3.out
      repeat still_step
      refine wpStill_nil ?_
      change wpList _ _ _ _ _ w2.drew
      rw [xor_byte b[j] r (by omega)]
      have HY := Lib.hid (HC.out j hj _ (xor_ne b[j] r (by omega)))
      have op2 := o2.put (j := j) (b[j] ^^^ UInt8.ofNat (1 + r))
      have HB3 := Lib.hid (bb2.setCell (p := ⟨g2, j, none⟩) (show w.heap.size ≤ g2 by have := o1.lt; omega) (.int .u8 ((b[j] ^^^ UInt8.ofNat (1 + r)).toNat : Int)))
      generalize b[j] ^^^ UInt8.ofNat (1 + r) = y at HY op2 HB3 ⊢
      have fj : w2.frozen? ⟨g2, j, none⟩ = false := by
        obtain ⟨_, cur, _, hg, _⟩ := o2
        exact frozen_of_row w2 g2 j cur _ hg
      generalize b[j] = x at cj
      have hlen : (b.set j y).length = b.length := by simp
      have hcall := implCrc_any (some ⟨g2, 0, none⟩) c2 (b.set j y) (w2.setCell ⟨g2, j, none⟩ (.int .u8 (y.toNat : Int))).drew op2.all (by omega)
      rw [hlen] at hcall
      have HK := Lib.hid hcall
      clear hcall hlen
      have hne : (((crcOf (b.set j y) : Nat) : Int) != (cr : Int)) = true := by
        rw [bne_iff_ne]; intro h; exact HY.out (by omega)
      generalize crcOf (b.set j y) = cy at HK hne HY
      go_wp2_with fail
      refine HK.out.mono ?_
      rintro e w3 ⟨rfl, rfl⟩
      go_wp2
      go_ret
      exact ⟨rfl, HB3.out.drew⟩
  · have d0 : decide ((1048576 : Int) < (l.length : Int)) = true := decide_eq_true (by omega)
    go_enter Try.func4, Try.ntmps4
    go_wp2_with fail
    refine (big_any _ _ _ _).mono ?_
    rintro e w1 ⟨rfl, rfl⟩
    rw [d0]
    go_wp2
    go_ret
    exact ⟨rfl, Below.refl _ _⟩
end Go.Proofs.Ytepoofamlpbchaa
