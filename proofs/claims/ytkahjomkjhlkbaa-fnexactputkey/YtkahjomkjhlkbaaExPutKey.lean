/- The walk of FnExactPutKey: at every argument the call returns true and writes nothing that was there. No condition. -/
import Derived.Test.YtkahjomkjhlkbaaKeyPut
namespace Go.Proofs.Ytkahjomkjhlkbaa
open Go.RowKit Go.ChangeShapes Go.WideShapes Go.Deep
set_option maxRecDepth 100000
theorem bgrown {B : Nat} {a w w' : World} {g : Nat} (h : Below B a w) (hB : B ≤ w.heap.size) (hg : w.grownBy w' (some g)) (hle : B ≤ g) : Below B a w' :=
  h.grown hg hB (fun k hk => by injection hk with hk; omega)
theorem Own.far {w w' : World} {g g' : Nat} {v : Value} {l : List UInt8} (h : Own w g v l) (hg : w.grownBy w' (some g')) (hne : g ≠ g') : Own w' g v l :=
  h.keep (hg.block g h.lt (fun e => hne (by injection e)))
theorem box_grow {w w' : World} {p g : Nat} {o : Obj} (q : w.heap[p]? = some o) (hg : w.grownBy w' (some g)) (hne : p ≠ g) : w'.heap[p]? = some o := (hg.block p (Array.getElem?_eq_some_iff.1 q).1 (fun e => hne (by injection e))).trans q
set_option maxHeartbeats 4000000 in
theorem exactPutKey_small (a0 : Option Addr) (cap0 : Nat) (l L : List UInt8) (a b c d e : Int) (w : World) (hr : Rd w w.heap.size a0 l) (hbig : l.length ≤ 1048576) (hL : L.length ≤ 1048676)
    (HS : Hid (∀ (A : Option Addr) (cap : Nat) (w : World), Rd w w.heap.size A l → Calls Try.prog 59 #[.slice A l.length cap, keyV a b c d e] w (NewBytes w L)))
    (HI : Hid (∀ (A : Option Addr) (cap : Nat) (w : World), Rd w w.heap.size A l → Calls Try.prog 38 #[.slice A l.length cap, keyV a b c d e] w (NewBytes w L))) :
    Calls Try.prog 13 #[.slice a0 l.length cap0, keyV a b c d e] w fun e w' => e = .returned (.bool true) ∧ Below w.heap.size w w' := by
  have hn : l.length ≤ 1099511627776 := by omega
  have hnL : L.length ≤ 1099511627776 := by omega
  have d0 : decide ((1048576 : Int) < (l.length : Int)) = false := decide_eq_false (by omega)
  have HT := Lib.hid (toKey_any a b c d e)
  unfold keyV at HS HI HT ⊢
  unfold SaysK keyV at HT
  have HB := Lib.hid (bal1 w (.cells #[.int .i64 a, .int .i64 b, .int .i64 c, .int .i64 d, .int .i64 e] 67))
  have HQ := Lib.hid (al1 w (.cells #[.int .i64 a, .int .i64 b, .int .i64 c, .int .i64 d, .int .i64 e] 67))
  have HR := Lib.hid (hr.on HB.out)
  have HZ := Lib.hid (show (w.alloc (.cells #[.int .i64 a, .int .i64 b, .int .i64 c, .int .i64 d, .int .i64 e] 67)).heap.size = w.heap.size + 1 by simp)
  have H0 := Lib.hid hr
  clear hr
  go_enter Try.func13, Try.ntmps13
  go_upto_region 1 with (fail)
  generalize w.alloc (.cells #[.int .i64 a, .int .i64 b, .int .i64 c, .int .i64 d, .int .i64 e] 67) = W at *
  obtain ⟨x0, x1, x2, x3, x4⟩ := key_held HQ.out
  go_wp2
  go_region_held3 (fun V => V.cell? ⟨w.heap.size, 0, none⟩ = some (.int .i64 a) ∧ V.cell? ⟨w.heap.size, 1, none⟩ = some (.int .i64 b) ∧ V.cell? ⟨w.heap.size, 2, none⟩ = some (.int .i64 c) ∧ V.cell? ⟨w.heap.size, 3, none⟩ = some (.int .i64 d) ∧ V.cell? ⟨w.heap.size, 4, none⟩ = some (.int .i64 e))
      (first | with_reducible exact key_held (box_on HQ.out B9) | with_reducible exact key_held (box_on HQ.out B8) | with_reducible exact key_held (box_on HQ.out B7) | with_reducible exact key_held (box_on HQ.out (Below.drew1 _)) | exact ⟨x0, x1, x2, x3, x4⟩)
      (first
        | (go_at_call 59; refine (HS.out _ _ _ O8.out.all).mono ?_; rintro r u9 ⟨g9, v9, rfl, o9, hg9, b9⟩; have hg99 := Nat.le_trans (Below.size B8) hg9; have B9 := bstep B8 b9; obtain ⟨c9, rfl, _, _⟩ := o9.rd)
        | (go_at_call 54; refine (toByteS_any _ _ l _ (HR.out.on B7) hn).mono ?_; rintro r u8 ⟨rfl, o8, b8⟩; have B8 := bstep B7 b8; have O8 := Lib.hid o8; clear o8)
        | (go_at_call 54; refine (toByteS_any _ _ l _ (HR.out.on (Below.drew1 _)) hn).mono ?_; rintro r u7 ⟨rfl, o7, b7⟩; have B7 := bstep (Below.drew1 _) b7; have O7 := Lib.hid o7; clear o7)
        | (go_at_call 56; refine (HT.out _).mono ?_; rintro r u8 ⟨rfl, b8⟩; have B8 := bstep B7 b8; have O8 := Lib.hid (O7.out.on b8))
        | (go_at_call 56; refine (HT.out _).mono ?_; rintro r u7 ⟨rfl, b7⟩; have B7 := bstep (Below.drew1 _) b7))
  all_goals
    have hzW := HZ.out
    have hgs : w.heap.size + 1 ≤ g9 := by omega
    have Q1 := Lib.hid (box_on HQ.out B9)
    have B1 := Lib.hid (bstep HB.out B9)
    have os := o9
    have hz1 := B9.size
    clear x0 x1 x2 x3 x4 B7 B8 B9 b7 b8 b9 o9 O8 hg9 hg99
    go_wp2_with fail
    refine (toByteS_any _ _ l _ (H0.out.on B1.out) hn).mono ?_
    rintro r w3 ⟨rfl, ox, b3⟩
    have Q3 := Lib.hid (box_on Q1.out b3)
    have B3 := Lib.hid (bstep B1.out b3)
    have os3 := os.on b3
    have lts := os.lt
    have hz3 := b3.size
    clear os Q1 B1 b3
    obtain ⟨x0, x1, x2, x3, x4, x5⟩ := box5 Q3.out
    go_wp2_with fail
    refine (HT.out _).mono ?_
    rintro r w4 ⟨rfl, b4⟩
    have Q4 := Lib.hid (box_on Q3.out b4)
    have B4 := Lib.hid (bstep B3.out b4)
    have os4 := os3.on b4
    have ox4 := ox.on b4
    have ltx := ox.lt
    have hz4 := b4.size
    clear os3 ox Q3 B3 b4 x0 x1 x2 x3 x4 x5
    go_wp2_with fail
    refine (HI.out _ _ _ ox4.all).mono ?_
    rintro r w5 ⟨gg, vg, rfl, og, hgg, b5⟩
    have Q5 := Lib.hid (box_on Q4.out b5)
    have B5 := Lib.hid (bstep B4.out b5)
    have os5 := os4.on b5
    have ox5 := ox4.on b5
    clear os4 ox4 Q4 B4 b5
    obtain ⟨cg, rfl, _, _⟩ := og.rd
    go_wp2_with fail
    refine (eqByteS_any _ _ _ _ L L _ og.all os5.all hnL hnL).mono ?_
    rintro r _ ⟨rfl, n1, rfl⟩
    rw [beq_self_eq_true]
    go_wp2_with fail
    refine (toByteS_any _ _ l _ ((H0.out.on B5.out).drewN n1) hn).mono ?_
    rintro r w6 ⟨rfl, ot, b6⟩
    have b6' : Below w5.heap.size w5 w6 := (bdrew (Below.refl _ _) n1).trans b6
    have Q6 := Lib.hid (box_on Q5.out b6')
    have B6 := Lib.hid (bstep B5.out b6')
    have os6 := os5.on b6'
    have ox6 := ox5.on b6'
    have og6 := og.on b6'
    clear os5 ox5 og Q5 B5 b6 b6'
    go_wp2_with fail
    refine (eqByteS_any _ _ _ _ l l _ ox6.all ot.all hn hn).mono ?_
    rintro r _ ⟨rfl, n2, rfl⟩
    rw [beq_self_eq_true]
    clear ot
    go_wp2_with fail
    refine (markByteS_any _ _ 1 l _ (ox6.drewN n2) hn (by omega) (by omega)).mono ?_
    rintro r w7 ⟨rfl, ox7, g7⟩
    have Q7 := Lib.hid (box_grow (show (w6.drewN n2).heap[w.heap.size]? = _ from Q6.out) g7 (by omega))
    have os7 := (os6.drewN n2).far g7 (by omega)
    have og7 := (og6.drewN n2).far g7 (by omega)
    have B7 := Lib.hid (bgrown (bdrew B6.out n2) (bdrew B6.out n2).size g7 (by omega))
    have d1 : decide ((1 : Int) + (l.length : Int) < 0) = false := decide_eq_false (by omega)
    clear os6 og6 ox6 Q6 B6 g7 ox7
    go_wp2_with fail
    refine (eqByteS_any _ _ _ _ L L _ og7.all os7.all hnL hnL).mono ?_
    rintro r _ ⟨rfl, n3, rfl⟩
    rw [beq_self_eq_true]
    go_wp2_with fail
    refine (markByteS_any _ _ 1 L _ (og7.drewN n3) hnL (by omega) (by omega)).mono ?_
    rintro r w8 ⟨rfl, og8, g8⟩
    have Q8 := Lib.hid (box_grow (show (w7.drewN n3).heap[w.heap.size]? = _ from Q7.out) g8 (by omega))
    have os8 := (os7.drewN n3).far g8 (by omega)
    have B8 := Lib.hid (bgrown (bdrew B7.out n3) (bdrew B7.out n3).size g8 (by omega))
    clear os7 og7 Q7 B7 g8
    have d2 : decide ((1 : Int) + (L.length : Int) < 0) = false := decide_eq_false (by omega)
    go_wp2_with fail
    refine (heldByteS_any _ _ 1 L.length _ og8.all hnL (by omega) (by omega)).mono ?_
    rintro r wa ⟨rfl, rfl⟩
    have OS := Lib.hid os8
    have OG := Lib.hid og8
    have BB := Lib.hid B8.out
    have QQ := Lib.hid Q8.out
    have RR := Lib.hid (H0.out.on B8.out)
    clear os8 og8 B8 Q8
    obtain ⟨x0, x1, x2, x3, x4⟩ := key_held QQ.out
    go_wp2
    go_region_held3 (fun V => V.cell? ⟨w.heap.size, 0, none⟩ = some (.int .i64 a) ∧ V.cell? ⟨w.heap.size, 1, none⟩ = some (.int .i64 b) ∧ V.cell? ⟨w.heap.size, 2, none⟩ = some (.int .i64 c) ∧ V.cell? ⟨w.heap.size, 3, none⟩ = some (.int .i64 d) ∧ V.cell? ⟨w.heap.size, 4, none⟩ = some (.int .i64 e))
        (first | with_reducible exact key_held (box_on QQ.out B9) | with_reducible exact key_held (box_on QQ.out B8) | with_reducible exact key_held (box_on QQ.out B7) | with_reducible exact key_held (box_on QQ.out (Below.drew1 _)) | exact ⟨x0, x1, x2, x3, x4⟩)
        (first
          | (go_at_call 38; refine (HI.out _ _ _ O8.out.all).mono ?_; rintro r z9 ⟨g9, v9, rfl, o9, hg9, b9⟩; have hg99 := Nat.le_trans (Below.size B8) hg9; have B9 := bstep B8 b9; obtain ⟨c9, rfl, _, _⟩ := o9.rd)
          | (go_at_call 54; refine (toByteS_any _ _ l _ (RR.out.on B7) hn).mono ?_; rintro r z8 ⟨rfl, o8, b8⟩; have B8 := bstep B7 b8; have O8 := Lib.hid o8; clear o8)
          | (go_at_call 54; refine (toByteS_any _ _ l _ (RR.out.on (Below.drew1 _)) hn).mono ?_; rintro r z7 ⟨rfl, o7, b7⟩; have B7 := bstep (Below.drew1 _) b7; have O7 := Lib.hid o7; clear o7)
          | (go_at_call 56; refine (HT.out _).mono ?_; rintro r z8 ⟨rfl, b8⟩; have B8 := bstep B7 b8; have O8 := Lib.hid (O7.out.on b8))
          | (go_at_call 56; refine (HT.out _).mono ?_; rintro r z7 ⟨rfl, b7⟩; have B7 := bstep (Below.drew1 _) b7))
    all_goals
      have OS2 := Lib.hid (OS.out.on B9)
      have OG2 := Lib.hid (OG.out.on B9)
      have BC := Lib.hid (bstep BB.out B9)
      clear x0 x1 x2 x3 x4 B7 B8 B9 b7 b8 b9 O8 OS OG BB QQ RR
      go_wp2_with fail
      refine (eqByteS_any _ _ _ _ L L _ o9.all OS2.out.all hnL hnL).mono ?_
      rintro r _ ⟨rfl, n4, rfl⟩
      rw [beq_self_eq_true]
      go_wp2_with fail
      refine (heldByteS_any _ _ 1 L.length _ (OG2.out.all.drewN n4) hnL (by omega) (by omega)).mono ?_
      rintro r wb ⟨rfl, rfl⟩
      go_wp2
      go_ret
      exact ⟨rfl, bdrew BC.out n4⟩
theorem open_bytesKey {H : Type} {enc : TypeId × Value → H} {w : World} {r : Reach} {b0 base : Nat} {spare : Nat → Bool} {held : Bool} {v : Value} {x : DataW H} {p : List MemPlace}
    (hv : Value.okWide Try.prog w r b0 22 v) (h : DataW.Trod enc Try.prog w base spare held 22 v x p) : ∃ l, Reads w w.heap.size v (bytesD l) := by
  obtain ⟨A, n, c, rfl⟩ := okWide_slice Try.underlying22 hv
  obtain ⟨fuel, hf⟩ := h
  obtain ⟨ds, ⟨l, rfl⟩, hr⟩ := bytes_opens Try.underlying22 Try.underlying5 (by kernel_rfl) _ _ _ _ _ _ _ _ _ hf
  have r0 := hr.2 0 (by simp [Value.cells]) (by simp)
  simp [Value.cells] at r0
  exact ⟨l, r0⟩
theorem exactPutKey_walk (u : Value) (l : List UInt8) (v : Value) (k : KeyD) (w : World) (hu : Reads w w.heap.size u (bytesD l)) (hv : KeyIs v k) :
    Calls Try.prog 13 #[u, v] w fun e w' => e = .returned (.bool true) ∧ Below w.heap.size w w' := by
  obtain ⟨A, cap, rfl, _, _, hr⟩ := hu.bytes
  obtain ⟨a, b, c, d, e⟩ := k
  unfold KeyIs at hv
  subst hv
  by_cases hbig : l.length ≤ 1048576
  · have hle := encK_le a b c d e
    exact exactPutKey_small A cap l (l ++ encK a b c d e) a b c d e w hr hbig (by rw [List.length_append]; omega) (Lib.hid (fun A cap w hr => specPutKey_any A cap l a b c d e w hr (by omega))) (Lib.hid (fun A cap w hr => implPutKey_any A cap l a b c d e w hr (by omega)))
  · have d0 : decide ((1048576 : Int) < (l.length : Int)) = true := decide_eq_true (by omega)
    unfold keyV
    go_enter Try.func13, Try.ntmps13
    go_wp2
    go_ret
    exact ⟨rfl, bal1 _ _⟩
end Go.Proofs.Ytkahjomkjhlkbaa
