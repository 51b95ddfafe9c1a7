/- The walk of FnAges: at every code the call returns true and writes nothing that was there. No condition. -/
import Derived.Test.YtjnecehogebjkaaAgeMath
namespace Go.Proofs.Ytjnecehogebjkaa
open Go.RowKit
set_option maxRecDepth 100000
set_option linter.unusedSimpArgs false
set_option linter.unusedVariables false

/-- A row of ints, laid down as cells. -/
def IntIn (w : World) (b off : Nat) (l : List Int) : Prop := b < w.heap.size ∧ ∀ k (hk : k < l.length), w.cell? ⟨b, off + k, none⟩ = some (.int .i64 l[k])
theorem IntIn.on {w w' : World} {b off : Nat} {l : List Int} (h : IntIn w b off l) (hb : Below w.heap.size w w') : IntIn w' b off l := ⟨Nat.lt_of_lt_of_le h.1 hb.size, fun k hk => (hb.cell (p := ⟨b, off + k, none⟩) h.1).trans (h.2 k hk)⟩
theorem IntIn.at {w : World} {b off : Nat} {l : List Int} (h : IntIn w b off l) {k : Nat} (hk : k < l.length) : w.cell? ⟨b, off + k, none⟩ = some (.int .i64 l[k]) := h.2 k hk
/-- The cells of a row of ints that is not empty. -/
theorem RowI.cells {w : World} {base : Nat} {A : Option Addr} {n c : Nat} {l : List Int} (h : RowI w base (.slice A n c) l) (h0 : 0 < l.length) : ∃ b off, A = some ⟨b, off, none⟩ ∧ IntIn w b off l := by
  obtain ⟨b, off, hA, hb, hc⟩ := h.owns.reads.int h0
  exact ⟨b, off, hA, hb, hc⟩
/-- The row behind its first element. -/
theorem IntIn.tail {w : World} {b off c : Nat} {x : Int} {l : List Int} (h : IntIn w b off (x :: l)) (hc : l.length + 1 ≤ c) (hm : c ≤ maxLen) : Reads w w.heap.size (.slice (if c = 1 then some ⟨b, off, none⟩ else some ⟨b, off + 1, none⟩) l.length (c - 1)) (intsD l) := by
  by_cases h1 : c = 1
  · have : l = [] := List.length_eq_zero_iff.1 (by omega)
    subst this
    rw [if_pos h1]
    exact .nil _ _ _ _ (by omega)
  · rw [if_neg h1]
    refine Reads.ofBytes (xs := l.map iV) (by omega) (by omega) (by simp) (by omega) (.inr ⟨b, off + 1, rfl, h.1, by simp, fun i hi => ?_, fun i hi h' => ?_⟩)
    · have := h.2 (i + 1) (by simp at hi ⊢; omega)
      rw [show off + 1 + i = off + (i + 1) by omega, this]
      simp [iV]
    · simp only [List.getElem_map]
      exact .lit _
theorem desc_at {p : List Int} (h : p.Pairwise (fun x y => y < x)) {j k : Nat} (hj : j < p.length) (hk : k < p.length) (hjk : j < k) : p[k] < p[j] := List.pairwise_iff_getElem.1 h j k hj hk hjk
set_option maxHeartbeats 8000000 in
theorem ages_walk (a0 : Option Addr) (len0 cap0 : Nat) (z0 : List Int) (w : World) (w0 : CameIn .u8 w a0 len0 cap0 z0) :
    Calls Try.prog 3 #[.slice a0 len0 cap0] w fun e w' => e = .returned (.bool true) ∧ Below w.heap.size w w' := by
  obtain ⟨cd, rfl, hr⟩ := w0.rd
  clear w0
  by_cases hbig : cd.length ≤ 1048576
  · have d0 : decide ((1048576 : Int) < (cd.length : Int)) = false := decide_eq_false (by omega)
    have HR := Lib.hid hr
    clear hr
    go_enter Try.func3, Try.ntmps3
    go_wp2_with fail
    refine (big_any _ _ _ _).mono ?_
    rintro r w1 ⟨rfl, rfl⟩
    rw [d0]
    clear d0
    go_wp2_with fail
    refine (drawAges_any _ _ cd _ HR.out hbig).mono ?_
    rintro r w1 ⟨vl, l, a, b, rfl, ol, gl, hl7, ha, hb, bd⟩
    obtain ⟨A, c, rfl, _, _⟩ := ol.shape
    have HL := Lib.hid ol.owns.reads
    have BB := Lib.hid bd
    have HV := Lib.hid (ok_vp gl.1)
    have HOK := Lib.hid gl.1
    clear ol bd gl HR
    go_wp2_with fail
    refine (implAgesOk_any _ l _ HL.out (by omega)).mono ?_
    rintro r w2 ⟨rfl, b2⟩
    rw [HOK.out]
    replace HL := Lib.hid (HL.out.on b2)
    replace BB := Lib.hid (bstep BB.out b2)
    clear b2 HOK
    go_wp2_with fail
    refine (implPathOf_any _ l a _ HL.out (by omega)).mono ?_
    rintro r w3 ⟨vp, rfl, op, b3⟩
    obtain ⟨AP, cp, rfl, _, _⟩ := op.shape
    have hpl := pathK_len l a
    have HPC := Lib.hid (fun h0 => RowI.cells op h0)
    have HPR := Lib.hid op.owns.reads
    obtain ⟨p, hp⟩ : ∃ p, pathK l a = p := ⟨_, rfl⟩
    rw [hp] at HPC hpl HPR
    have HP := Lib.hid hp
    replace HL := Lib.hid (HL.out.on b3)
    replace BB := Lib.hid (bstep BB.out b3)
    clear op b3
    rw [hp]
    clear hp
    have hgq := ageAt_geq l a
    obtain ⟨H, hH⟩ : ∃ H, hasG l a = H := ⟨_, rfl⟩
    rw [hH] at hgq
    have HH := Lib.hid hH
    clear hH
    go_wp2_with fail
    refine (implAgeAt_any _ l a _ HL.out (by omega)).mono ?_
    rintro r w4 ⟨rfl, b4⟩
    generalize ageAtK l a = q at *
    have hq : decide (0 ≤ q) = H := hgq
    have HQ := Lib.hid hq
    replace HL := Lib.hid (HL.out.on b4)
    replace HPC : Hid (0 < p.length → ∃ b off, AP = some ⟨b, off, none⟩ ∧ IntIn w4 b off p) := Lib.hid (fun h0 => by obtain ⟨b, off, hA, hI⟩ := HPC.out h0; exact ⟨b, off, hA, hI.on b4⟩)
    replace HPR := Lib.hid (HPR.out.on b4)
    replace BB := Lib.hid (bstep BB.out b4)
    clear b4 hgq
    have HPD := Lib.hid (path_desc HV.out a)
    have HFRM : Hid (∀ k (hk : k < p.length), fromB l p[k] a = true) := Lib.hid (fun k hk => decide_eq_true (by rw [HP.out]; exact List.getElem_mem hk))
    rw [HP.out] at HPD
    go_wp2
    all_goals
      clear hq
      go_loopw [8] (fun i wr => ∃ k : Nat, k ≤ p.length ∧ i = .int .i64 k ∧ Hid (Below w4.heap.size w4 wr)) (fun i _ => p.length - (intOf i).toNat)
      case atStart => exact ⟨0, Nat.zero_le _, rfl, Lib.hid (Below.refl _ _)⟩
      case round =>
        obtain ⟨k, hk, rfl, HX⟩ := hrel
        by_cases hlt : k < p.length
        · obtain ⟨bp, offp, hAP, hin⟩ := HPC.out (by omega)
          subst hAP
          have HPI := Lib.hid hin
          have HFR := Lib.hid (HFRM.out k hlt)
          have i1 : (k : Int) < (p.length : Int) := by omega
          have i2 : (0 : Int) ≤ (k : Int) := by omega
          clear hin
          by_cases hk0 : k = 0
          · have z0 : decide (0 < k) = false := decide_eq_false (by omega)
            clear hk0
            go_upto_region 11 with (fail)
            refine but_begin (f := 23) (S := fun V => Below wr.drew.heap.size wr.drew V) (by kernel_rfl) ?_
            refine but_take (f := 23) (i := 0) (v := ?vg00) rfl (by kernel_rfl) (by kernel_rfl) (by kernel_rfl) (by kernel_rfl) (by kernel_rfl) (fun _ _ _ h => h) (Or.inl ⟨(by rfl), ?hyg00⟩) (Below.refl _ _) ?restg00
            case hyg00 =>
              intro W hW
              go_simp
              exact rfl
            simp only [List.getElem_toArray, List.getElem_cons_succ, List.getElem_cons_zero, Act.put, List.setIfInBounds_toArray, List.set_cons_zero, List.set_cons_succ]
            refine but_take (f := 23) (i := 1) (v := ?vg01) rfl (by kernel_rfl) (by kernel_rfl) (by kernel_rfl) (by kernel_rfl) (by kernel_rfl) (fun _ _ _ h => h) (Or.inl ⟨(by rfl), ?hyg01⟩) (Below.refl _ _) ?restg01
            case hyg01 =>
              intro W hW
              go_simp
              exact rfl
            simp only [List.getElem_toArray, List.getElem_cons_succ, List.getElem_cons_zero, Act.put, List.setIfInBounds_toArray, List.set_cons_zero, List.set_cons_succ]
            refine but_take (f := 23) (i := 2) (v := ?vg02) rfl (by kernel_rfl) (by kernel_rfl) (by kernel_rfl) (by kernel_rfl) (by kernel_rfl) (fun _ _ _ h => h) (Or.inl ⟨(by rfl), ?hyg02⟩) (Below.refl _ _) ?restg02
            case hyg02 =>
              intro W hW
              go_simp
              exact rfl
            simp only [List.getElem_toArray, List.getElem_cons_succ, List.getElem_cons_zero, Act.put, List.setIfInBounds_toArray, List.set_cons_zero, List.set_cons_succ]
            refine but_take (f := 23) (i := 3) (v := ?vg03) rfl (by kernel_rfl) (by kernel_rfl) (by kernel_rfl) (by kernel_rfl) (by kernel_rfl) (fun _ _ _ h => h) (Or.inl ⟨(by rfl), ?hyg03⟩) (Below.refl _ _) ?restg03
            case hyg03 =>
              intro W hW
              go_simp
              exact rfl
            simp only [List.getElem_toArray, List.getElem_cons_succ, List.getElem_cons_zero, Act.put, List.setIfInBounds_toArray, List.set_cons_zero, List.set_cons_succ]
            refine but_take (f := 23) (i := 4) (v := ?vg04) rfl (by kernel_rfl) (by kernel_rfl) (by kernel_rfl) (by kernel_rfl) (by kernel_rfl) (fun _ _ _ h => h) (Or.inl ⟨(by rfl), ?hyg04⟩) (Below.refl _ _) ?restg04
            case hyg04 =>
              intro W hW
              have hb0 : Below wr.heap.size wr W := bstep (Below.drew1 _) hW
              have y0 := (HPI.out.on (bstep HX.out hb0)).at hlt
              go_simp
              exact rfl
            simp only [List.getElem_toArray, List.getElem_cons_succ, List.getElem_cons_zero, Act.put, List.setIfInBounds_toArray, List.set_cons_zero, List.set_cons_succ]
            refine but_take (f := 23) (i := 5) (v := ?vg05) rfl (by kernel_rfl) (by kernel_rfl) (by kernel_rfl) (by kernel_rfl) (by kernel_rfl) (fun _ _ _ h => h) (Or.inl ⟨(by rfl), ?hyg05⟩) (Below.refl _ _) ?restg05
            case hyg05 =>
              intro W hW
              go_simp
              exact rfl
            simp only [List.getElem_toArray, List.getElem_cons_succ, List.getElem_cons_zero, Act.put, List.setIfInBounds_toArray, List.set_cons_zero, List.set_cons_succ]
            refine but_run (i := 6) (by kernel_rfl) rfl (by rfl) ?_
            simp only [List.getElem_toArray, List.getElem_cons_succ, List.getElem_cons_zero]
            intro K HK
            go_wp2_with fail
            refine (implIsFrom_any _ l p[k] a _ (HL.out.on (bstep HX.out (bstep (Below.drew1 _) (Below.refl _ _)))) (by omega)).mono ?_
            rintro r Vg01 ⟨rfl, hBg01⟩
            rw [HFR.out]
            have hSg01 := bstep (Below.refl _ _) hBg01
            go_wp2_with fail
            refine HK.out _ Vg01 (fun _ => hSg01) ?_
            clear HK
            refine but_take (f := 23) (i := 7) (v := ?vg07) rfl (by kernel_rfl) (by kernel_rfl) (by kernel_rfl) (by kernel_rfl) (by kernel_rfl) (fun _ _ _ h => h) (Or.inl ⟨(by rfl), ?hyg07⟩) hSg01 ?restg07
            case hyg07 =>
              intro W hW
              go_simp
              exact rfl
            simp only [List.getElem_toArray, List.getElem_cons_succ, List.getElem_cons_zero, Act.put, List.setIfInBounds_toArray, List.set_cons_zero, List.set_cons_succ]
            refine but_take (f := 23) (i := 8) (v := ?vg08) rfl (by kernel_rfl) (by kernel_rfl) (by kernel_rfl) (by kernel_rfl) (by kernel_rfl) (fun _ _ _ h => h) (Or.inl ⟨(by rfl), ?hyg08⟩) hSg01 ?restg08
            case hyg08 =>
              intro W hW
              go_simp
              exact rfl
            simp only [List.getElem_toArray, List.getElem_cons_succ, List.getElem_cons_zero, Act.put, List.setIfInBounds_toArray, List.set_cons_zero, List.set_cons_succ]
            refine but_take (f := 23) (i := 9) (v := ?vg09) rfl (by kernel_rfl) (by kernel_rfl) (by kernel_rfl) (by kernel_rfl) (by kernel_rfl) (fun _ _ _ h => h) (Or.inl ⟨((wanted_at rfl rfl rfl rfl).trans rfl), ?hyg09⟩) hSg01 ?restg09
            case hyg09 =>
              intro W hW
              go_simp
              exact rfl
            simp only [List.getElem_toArray, List.getElem_cons_succ, List.getElem_cons_zero, Act.put, List.setIfInBounds_toArray, List.set_cons_zero, List.set_cons_succ]
            refine but_take (f := 23) (i := 10) (v := ?vg010) rfl (by kernel_rfl) (by kernel_rfl) (by kernel_rfl) (by kernel_rfl) (by kernel_rfl) (fun _ _ _ h => h) (Or.inl ⟨((wanted_at rfl rfl rfl rfl).trans rfl), ?hyg010⟩) hSg01 ?restg010
            case hyg010 =>
              intro W hW
              go_simp
              exact rfl
            simp only [List.getElem_toArray, List.getElem_cons_succ, List.getElem_cons_zero, Act.put, List.setIfInBounds_toArray, List.set_cons_zero, List.set_cons_succ]
            refine but_take (f := 23) (i := 11) (v := ?vg011) rfl (by kernel_rfl) (by kernel_rfl) (by kernel_rfl) (by kernel_rfl) (by kernel_rfl) (fun _ _ _ h => h) (Or.inl ⟨((wanted_at rfl rfl rfl rfl).trans rfl), ?hyg011⟩) hSg01 ?restg011
            case hyg011 =>
              intro W hW
              go_simp
              exact rfl
            simp only [List.getElem_toArray, List.getElem_cons_succ, List.getElem_cons_zero, Act.put, List.setIfInBounds_toArray, List.set_cons_zero, List.set_cons_succ]
            refine but_take (f := 23) (i := 12) (v := undef) rfl (by kernel_rfl) (by kernel_rfl) (by kernel_rfl) (by kernel_rfl) (by kernel_rfl) (fun _ _ _ h => h) (Or.inr ⟨((wanted_at rfl rfl rfl rfl).trans rfl), rfl⟩) hSg01 ?_
            simp only [List.getElem_toArray, List.getElem_cons_succ, List.getElem_cons_zero, Act.put, List.setIfInBounds_toArray, List.set_cons_zero, List.set_cons_succ]
            refine but_take (f := 23) (i := 13) (v := undef) rfl (by kernel_rfl) (by kernel_rfl) (by kernel_rfl) (by kernel_rfl) (by kernel_rfl) (fun _ _ _ h => h) (Or.inr ⟨((wanted_at rfl rfl rfl rfl).trans rfl), rfl⟩) hSg01 ?_
            simp only [List.getElem_toArray, List.getElem_cons_succ, List.getElem_cons_zero, Act.put, List.setIfInBounds_toArray, List.set_cons_zero, List.set_cons_succ]
            refine but_take (f := 23) (i := 14) (v := undef) rfl (by kernel_rfl) (by kernel_rfl) (by kernel_rfl) (by kernel_rfl) (by kernel_rfl) (fun _ _ _ h => h) (Or.inr ⟨((wanted_at rfl rfl rfl rfl).trans rfl), rfl⟩) hSg01 ?_
            simp only [List.getElem_toArray, List.getElem_cons_succ, List.getElem_cons_zero, Act.put, List.setIfInBounds_toArray, List.set_cons_zero, List.set_cons_succ]
            refine but_take (f := 23) (i := 15) (v := undef) rfl (by kernel_rfl) (by kernel_rfl) (by kernel_rfl) (by kernel_rfl) (by kernel_rfl) (fun _ _ _ h => h) (Or.inr ⟨((wanted_at rfl rfl rfl rfl).trans rfl), rfl⟩) hSg01 ?_
            simp only [List.getElem_toArray, List.getElem_cons_succ, List.getElem_cons_zero, Act.put, List.setIfInBounds_toArray, List.set_cons_zero, List.set_cons_succ]
            refine but_take (f := 23) (i := 16) (v := undef) rfl (by kernel_rfl) (by kernel_rfl) (by kernel_rfl) (by kernel_rfl) (by kernel_rfl) (fun _ _ _ h => h) (Or.inr ⟨((wanted_at rfl rfl rfl rfl).trans rfl), rfl⟩) hSg01 ?_
            simp only [List.getElem_toArray, List.getElem_cons_succ, List.getElem_cons_zero, Act.put, List.setIfInBounds_toArray, List.set_cons_zero, List.set_cons_succ]
            refine but_take (f := 23) (i := 17) (v := undef) rfl (by kernel_rfl) (by kernel_rfl) (by kernel_rfl) (by kernel_rfl) (by kernel_rfl) (fun _ _ _ h => h) (Or.inr ⟨((wanted_at rfl rfl rfl rfl).trans rfl), rfl⟩) hSg01 ?_
            simp only [List.getElem_toArray, List.getElem_cons_succ, List.getElem_cons_zero, Act.put, List.setIfInBounds_toArray, List.set_cons_zero, List.set_cons_succ]
            refine but_take (f := 23) (i := 18) (v := undef) rfl (by kernel_rfl) (by kernel_rfl) (by kernel_rfl) (by kernel_rfl) (by kernel_rfl) (fun _ _ _ h => h) (Or.inr ⟨((wanted_at rfl rfl rfl rfl).trans rfl), rfl⟩) hSg01 ?_
            simp only [List.getElem_toArray, List.getElem_cons_succ, List.getElem_cons_zero, Act.put, List.setIfInBounds_toArray, List.set_cons_zero, List.set_cons_succ]
            refine but_take (f := 23) (i := 19) (v := undef) rfl (by kernel_rfl) (by kernel_rfl) (by kernel_rfl) (by kernel_rfl) (by kernel_rfl) (fun _ _ _ h => h) (Or.inr ⟨((wanted_at rfl rfl rfl rfl).trans rfl), rfl⟩) hSg01 ?_
            simp only [List.getElem_toArray, List.getElem_cons_succ, List.getElem_cons_zero, Act.put, List.setIfInBounds_toArray, List.set_cons_zero, List.set_cons_succ]
            refine but_take (f := 23) (i := 20) (v := undef) rfl (by kernel_rfl) (by kernel_rfl) (by kernel_rfl) (by kernel_rfl) (by kernel_rfl) (fun _ _ _ h => h) (Or.inr ⟨((wanted_at rfl rfl rfl rfl).trans rfl), rfl⟩) hSg01 ?_
            simp only [List.getElem_toArray, List.getElem_cons_succ, List.getElem_cons_zero, Act.put, List.setIfInBounds_toArray, List.set_cons_zero, List.set_cons_succ]
            refine but_take (f := 23) (i := 21) (v := undef) rfl (by kernel_rfl) (by kernel_rfl) (by kernel_rfl) (by kernel_rfl) (by kernel_rfl) (fun _ _ _ h => h) (Or.inr ⟨((wanted_at rfl rfl rfl rfl).trans rfl), rfl⟩) hSg01 ?_
            simp only [List.getElem_toArray, List.getElem_cons_succ, List.getElem_cons_zero, Act.put, List.setIfInBounds_toArray, List.set_cons_zero, List.set_cons_succ]
            refine but_take (f := 23) (i := 22) (v := ?vg022) rfl (by kernel_rfl) (by kernel_rfl) (by kernel_rfl) (by kernel_rfl) (by kernel_rfl) (fun _ _ _ h => h) (Or.inl ⟨((wanted_at rfl rfl rfl rfl).trans rfl), ?hyg022⟩) hSg01 ?restg022
            case hyg022 =>
              intro W hW
              go_simp
              exact rfl
            simp only [List.getElem_toArray, List.getElem_cons_succ, List.getElem_cons_zero, Act.put, List.setIfInBounds_toArray, List.set_cons_zero, List.set_cons_succ]
            refine but_run (i := 23) (by kernel_rfl) rfl (by rfl) ?_
            simp only [List.getElem_toArray, List.getElem_cons_succ, List.getElem_cons_zero]
            intro K HK
            go_wp2_with fail
            refine HK.out _ Vg01 (fun h => absurd rfl h) ?_
            clear HK
            refine but_done (by kernel_rfl) ?_
            go_wp2_with fail
            go_roundw
            case rel => exact ⟨k + 1, by omega, by go_num, Lib.hid (bstep HX.out (bstep (Below.drew1 _) hSg01))⟩
            case measure => simp [intOf]; omega
          · have z0 : decide (0 < k) = true := decide_eq_true (by omega)
            obtain ⟨j, hj⟩ : ∃ j, j + 1 = k := ⟨k - 1, by omega⟩
            have hjl : j < p.length := by omega
            have j1 : (j : Int) < (p.length : Int) := by omega
            have j2 : (0 : Int) ≤ (j : Int) := by omega
            have j3 : IntKind.i64.wrap ((k : Int) - 1) = (j : Int) := by rw [IntKind.wrap_i64]; omega
            have j4 : IntKind.i64.wrap (j : Int) = (j : Int) := by rw [IntKind.wrap_i64]; omega
            have hd := desc_at HPD.out hjl hlt (by omega)
            have z1 : decide (p[j] ≤ p[k]) = false := decide_eq_false (by omega)
            clear hk0 hj hd
            go_upto_region 11 with (fail)
            refine but_begin (f := 23) (S := fun V => Below wr.drew.heap.size wr.drew V) (by kernel_rfl) ?_
            refine but_take (f := 23) (i := 0) (v := ?vg10) rfl (by kernel_rfl) (by kernel_rfl) (by kernel_rfl) (by kernel_rfl) (by kernel_rfl) (fun _ _ _ h => h) (Or.inl ⟨(by rfl), ?hyg10⟩) (Below.refl _ _) ?restg10
            case hyg10 =>
              intro W hW
              go_simp
              exact rfl
            simp only [List.getElem_toArray, List.getElem_cons_succ, List.getElem_cons_zero, Act.put, List.setIfInBounds_toArray, List.set_cons_zero, List.set_cons_succ]
            refine but_take (f := 23) (i := 1) (v := ?vg11) rfl (by kernel_rfl) (by kernel_rfl) (by kernel_rfl) (by kernel_rfl) (by kernel_rfl) (fun _ _ _ h => h) (Or.inl ⟨(by rfl), ?hyg11⟩) (Below.refl _ _) ?restg11
            case hyg11 =>
              intro W hW
              go_simp
              exact rfl
            simp only [List.getElem_toArray, List.getElem_cons_succ, List.getElem_cons_zero, Act.put, List.setIfInBounds_toArray, List.set_cons_zero, List.set_cons_succ]
            refine but_take (f := 23) (i := 2) (v := ?vg12) rfl (by kernel_rfl) (by kernel_rfl) (by kernel_rfl) (by kernel_rfl) (by kernel_rfl) (fun _ _ _ h => h) (Or.inl ⟨(by rfl), ?hyg12⟩) (Below.refl _ _) ?restg12
            case hyg12 =>
              intro W hW
              go_simp
              exact rfl
            simp only [List.getElem_toArray, List.getElem_cons_succ, List.getElem_cons_zero, Act.put, List.setIfInBounds_toArray, List.set_cons_zero, List.set_cons_succ]
            refine but_take (f := 23) (i := 3) (v := ?vg13) rfl (by kernel_rfl) (by kernel_rfl) (by kernel_rfl) (by kernel_rfl) (by kernel_rfl) (fun _ _ _ h => h) (Or.inl ⟨(by rfl), ?hyg13⟩) (Below.refl _ _) ?restg13
            case hyg13 =>
              intro W hW
              go_simp
              exact rfl
            simp only [List.getElem_toArray, List.getElem_cons_succ, List.getElem_cons_zero, Act.put, List.setIfInBounds_toArray, List.set_cons_zero, List.set_cons_succ]
            refine but_take (f := 23) (i := 4) (v := ?vg14) rfl (by kernel_rfl) (by kernel_rfl) (by kernel_rfl) (by kernel_rfl) (by kernel_rfl) (fun _ _ _ h => h) (Or.inl ⟨(by rfl), ?hyg14⟩) (Below.refl _ _) ?restg14
            case hyg14 =>
              intro W hW
              have hb0 : Below wr.heap.size wr W := bstep (Below.drew1 _) hW
              have y0 := (HPI.out.on (bstep HX.out hb0)).at hlt
              have y1 := (HPI.out.on (bstep HX.out hb0)).at hjl
              go_simp
              exact rfl
            simp only [List.getElem_toArray, List.getElem_cons_succ, List.getElem_cons_zero, Act.put, List.setIfInBounds_toArray, List.set_cons_zero, List.set_cons_succ]
            refine but_take (f := 23) (i := 5) (v := ?vg15) rfl (by kernel_rfl) (by kernel_rfl) (by kernel_rfl) (by kernel_rfl) (by kernel_rfl) (fun _ _ _ h => h) (Or.inl ⟨(by rfl), ?hyg15⟩) (Below.refl _ _) ?restg15
            case hyg15 =>
              intro W hW
              go_simp
              exact rfl
            simp only [List.getElem_toArray, List.getElem_cons_succ, List.getElem_cons_zero, Act.put, List.setIfInBounds_toArray, List.set_cons_zero, List.set_cons_succ]
            refine but_run (i := 6) (by kernel_rfl) rfl (by rfl) ?_
            simp only [List.getElem_toArray, List.getElem_cons_succ, List.getElem_cons_zero]
            intro K HK
            go_wp2_with fail
            refine (implIsFrom_any _ l p[k] a _ (HL.out.on (bstep HX.out (bstep (Below.drew1 _) (Below.refl _ _)))) (by omega)).mono ?_
            rintro r Vg11 ⟨rfl, hBg11⟩
            rw [HFR.out]
            have hSg11 := bstep (Below.refl _ _) hBg11
            go_wp2_with fail
            refine HK.out _ Vg11 (fun _ => hSg11) ?_
            clear HK
            refine but_take (f := 23) (i := 7) (v := ?vg17) rfl (by kernel_rfl) (by kernel_rfl) (by kernel_rfl) (by kernel_rfl) (by kernel_rfl) (fun _ _ _ h => h) (Or.inl ⟨(by rfl), ?hyg17⟩) hSg11 ?restg17
            case hyg17 =>
              intro W hW
              go_simp
              exact rfl
            simp only [List.getElem_toArray, List.getElem_cons_succ, List.getElem_cons_zero, Act.put, List.setIfInBounds_toArray, List.set_cons_zero, List.set_cons_succ]
            refine but_take (f := 23) (i := 8) (v := ?vg18) rfl (by kernel_rfl) (by kernel_rfl) (by kernel_rfl) (by kernel_rfl) (by kernel_rfl) (fun _ _ _ h => h) (Or.inl ⟨(by rfl), ?hyg18⟩) hSg11 ?restg18
            case hyg18 =>
              intro W hW
              go_simp
              exact rfl
            simp only [List.getElem_toArray, List.getElem_cons_succ, List.getElem_cons_zero, Act.put, List.setIfInBounds_toArray, List.set_cons_zero, List.set_cons_succ]
            refine but_take (f := 23) (i := 9) (v := ?vg19) rfl (by kernel_rfl) (by kernel_rfl) (by kernel_rfl) (by kernel_rfl) (by kernel_rfl) (fun _ _ _ h => h) (Or.inl ⟨((wanted_at rfl rfl rfl rfl).trans rfl), ?hyg19⟩) hSg11 ?restg19
            case hyg19 =>
              intro W hW
              go_simp
              exact rfl
            simp only [List.getElem_toArray, List.getElem_cons_succ, List.getElem_cons_zero, Act.put, List.setIfInBounds_toArray, List.set_cons_zero, List.set_cons_succ]
            refine but_take (f := 23) (i := 10) (v := ?vg110) rfl (by kernel_rfl) (by kernel_rfl) (by kernel_rfl) (by kernel_rfl) (by kernel_rfl) (fun _ _ _ h => h) (Or.inl ⟨((wanted_at rfl rfl rfl rfl).trans rfl), ?hyg110⟩) hSg11 ?restg110
            case hyg110 =>
              intro W hW
              go_simp
              exact rfl
            simp only [List.getElem_toArray, List.getElem_cons_succ, List.getElem_cons_zero, Act.put, List.setIfInBounds_toArray, List.set_cons_zero, List.set_cons_succ]
            refine but_take (f := 23) (i := 11) (v := ?vg111) rfl (by kernel_rfl) (by kernel_rfl) (by kernel_rfl) (by kernel_rfl) (by kernel_rfl) (fun _ _ _ h => h) (Or.inl ⟨((wanted_at rfl rfl rfl rfl).trans rfl), ?hyg111⟩) hSg11 ?restg111
            case hyg111 =>
              intro W hW
              go_simp
              exact rfl
            simp only [List.getElem_toArray, List.getElem_cons_succ, List.getElem_cons_zero, Act.put, List.setIfInBounds_toArray, List.set_cons_zero, List.set_cons_succ]
            refine but_take (f := 23) (i := 12) (v := ?vg112) rfl (by kernel_rfl) (by kernel_rfl) (by kernel_rfl) (by kernel_rfl) (by kernel_rfl) (fun _ _ _ h => h) (Or.inl ⟨((wanted_at rfl rfl rfl rfl).trans rfl), ?hyg112⟩) hSg11 ?restg112
            case hyg112 =>
              intro W hW
              go_simp
              exact rfl
            simp only [List.getElem_toArray, List.getElem_cons_succ, List.getElem_cons_zero, Act.put, List.setIfInBounds_toArray, List.set_cons_zero, List.set_cons_succ]
            refine but_take (f := 23) (i := 13) (v := ?vg113) rfl (by kernel_rfl) (by kernel_rfl) (by kernel_rfl) (by kernel_rfl) (by kernel_rfl) (fun _ _ _ h => h) (Or.inl ⟨((wanted_at rfl rfl rfl rfl).trans rfl), ?hyg113⟩) hSg11 ?restg113
            case hyg113 =>
              intro W hW
              go_simp
              exact rfl
            simp only [List.getElem_toArray, List.getElem_cons_succ, List.getElem_cons_zero, Act.put, List.setIfInBounds_toArray, List.set_cons_zero, List.set_cons_succ]
            refine but_take (f := 23) (i := 14) (v := ?vg114) rfl (by kernel_rfl) (by kernel_rfl) (by kernel_rfl) (by kernel_rfl) (by kernel_rfl) (fun _ _ _ h => h) (Or.inl ⟨((wanted_at rfl rfl rfl rfl).trans rfl), ?hyg114⟩) hSg11 ?restg114
            case hyg114 =>
              intro W hW
              go_simp
              exact rfl
            simp only [List.getElem_toArray, List.getElem_cons_succ, List.getElem_cons_zero, Act.put, List.setIfInBounds_toArray, List.set_cons_zero, List.set_cons_succ]
            refine but_take (f := 23) (i := 15) (v := ?vg115) rfl (by kernel_rfl) (by kernel_rfl) (by kernel_rfl) (by kernel_rfl) (by kernel_rfl) (fun _ _ _ h => h) (Or.inl ⟨((wanted_at rfl rfl rfl rfl).trans rfl), ?hyg115⟩) hSg11 ?restg115
            case hyg115 =>
              intro W hW
              have hb0 : Below wr.heap.size wr W := bstep (Below.drew1 _) hW
              have y0 := (HPI.out.on (bstep HX.out hb0)).at hlt
              have y1 := (HPI.out.on (bstep HX.out hb0)).at hjl
              go_simp
              exact rfl
            simp only [List.getElem_toArray, List.getElem_cons_succ, List.getElem_cons_zero, Act.put, List.setIfInBounds_toArray, List.set_cons_zero, List.set_cons_succ]
            refine but_take (f := 23) (i := 16) (v := ?vg116) rfl (by kernel_rfl) (by kernel_rfl) (by kernel_rfl) (by kernel_rfl) (by kernel_rfl) (fun _ _ _ h => h) (Or.inl ⟨((wanted_at rfl rfl rfl rfl).trans rfl), ?hyg116⟩) hSg11 ?restg116
            case hyg116 =>
              intro W hW
              go_simp
              exact rfl
            simp only [List.getElem_toArray, List.getElem_cons_succ, List.getElem_cons_zero, Act.put, List.setIfInBounds_toArray, List.set_cons_zero, List.set_cons_succ]
            refine but_take (f := 23) (i := 17) (v := ?vg117) rfl (by kernel_rfl) (by kernel_rfl) (by kernel_rfl) (by kernel_rfl) (by kernel_rfl) (fun _ _ _ h => h) (Or.inl ⟨((wanted_at rfl rfl rfl rfl).trans rfl), ?hyg117⟩) hSg11 ?restg117
            case hyg117 =>
              intro W hW
              go_simp
              exact rfl
            simp only [List.getElem_toArray, List.getElem_cons_succ, List.getElem_cons_zero, Act.put, List.setIfInBounds_toArray, List.set_cons_zero, List.set_cons_succ]
            refine but_take (f := 23) (i := 18) (v := ?vg118) rfl (by kernel_rfl) (by kernel_rfl) (by kernel_rfl) (by kernel_rfl) (by kernel_rfl) (fun _ _ _ h => h) (Or.inl ⟨((wanted_at rfl rfl rfl rfl).trans rfl), ?hyg118⟩) hSg11 ?restg118
            case hyg118 =>
              intro W hW
              go_simp
              exact rfl
            simp only [List.getElem_toArray, List.getElem_cons_succ, List.getElem_cons_zero, Act.put, List.setIfInBounds_toArray, List.set_cons_zero, List.set_cons_succ]
            refine but_take (f := 23) (i := 19) (v := ?vg119) rfl (by kernel_rfl) (by kernel_rfl) (by kernel_rfl) (by kernel_rfl) (by kernel_rfl) (fun _ _ _ h => h) (Or.inl ⟨((wanted_at rfl rfl rfl rfl).trans rfl), ?hyg119⟩) hSg11 ?restg119
            case hyg119 =>
              intro W hW
              go_simp
              exact rfl
            simp only [List.getElem_toArray, List.getElem_cons_succ, List.getElem_cons_zero, Act.put, List.setIfInBounds_toArray, List.set_cons_zero, List.set_cons_succ]
            refine but_take (f := 23) (i := 20) (v := ?vg120) rfl (by kernel_rfl) (by kernel_rfl) (by kernel_rfl) (by kernel_rfl) (by kernel_rfl) (fun _ _ _ h => h) (Or.inl ⟨((wanted_at rfl rfl rfl rfl).trans rfl), ?hyg120⟩) hSg11 ?restg120
            case hyg120 =>
              intro W hW
              have hb0 : Below wr.heap.size wr W := bstep (Below.drew1 _) hW
              have y0 := (HPI.out.on (bstep HX.out hb0)).at hlt
              have y1 := (HPI.out.on (bstep HX.out hb0)).at hjl
              go_simp
              exact rfl
            simp only [List.getElem_toArray, List.getElem_cons_succ, List.getElem_cons_zero, Act.put, List.setIfInBounds_toArray, List.set_cons_zero, List.set_cons_succ]
            refine but_take (f := 23) (i := 21) (v := ?vg121) rfl (by kernel_rfl) (by kernel_rfl) (by kernel_rfl) (by kernel_rfl) (by kernel_rfl) (fun _ _ _ h => h) (Or.inl ⟨((wanted_at rfl rfl rfl rfl).trans rfl), ?hyg121⟩) hSg11 ?restg121
            case hyg121 =>
              intro W hW
              go_simp
              exact rfl
            simp only [List.getElem_toArray, List.getElem_cons_succ, List.getElem_cons_zero, Act.put, List.setIfInBounds_toArray, List.set_cons_zero, List.set_cons_succ]
            refine but_take (f := 23) (i := 22) (v := ?vg122) rfl (by kernel_rfl) (by kernel_rfl) (by kernel_rfl) (by kernel_rfl) (by kernel_rfl) (fun _ _ _ h => h) (Or.inl ⟨((wanted_at rfl rfl rfl rfl).trans rfl), ?hyg122⟩) hSg11 ?restg122
            case hyg122 =>
              intro W hW
              go_simp
              exact rfl
            simp only [List.getElem_toArray, List.getElem_cons_succ, List.getElem_cons_zero, Act.put, List.setIfInBounds_toArray, List.set_cons_zero, List.set_cons_succ]
            refine but_run (i := 23) (by kernel_rfl) rfl (by rfl) ?_
            simp only [List.getElem_toArray, List.getElem_cons_succ, List.getElem_cons_zero]
            intro K HK
            go_wp2_with fail
            refine HK.out _ Vg11 (fun h => absurd rfl h) ?_
            clear HK
            refine but_done (by kernel_rfl) ?_
            go_wp2_with fail
            go_roundw
            case rel => exact ⟨k + 1, by omega, by go_num, Lib.hid (bstep HX.out (bstep (Below.drew1 _) hSg11))⟩
            case measure => simp [intOf]; omega
        · have HLX := Lib.hid (HL.out.on HX.out)
          have HPX := Lib.hid (HPR.out.on HX.out)
          have BX := Lib.hid (bstep BB.out HX.out)
          clear HX hk
          go_wp2_with fail
          refine (implKidsOf_any _ l a _ HLX.out (by omega)).mono ?_
          rintro r w5 ⟨vk, rfl, ok, b5⟩
          obtain ⟨AK, ck, rfl, _, _⟩ := ok.shape
          have hkl := kidsK_len l a
          have HKC := Lib.hid (fun h0 => RowI.cells ok h0)
          have HKP : Hid (∀ c ∈ kidsK l a, pathK l c = c :: p ∧ fromB l a c = true) := Lib.hid (fun c hc => by have := kid_path HV.out hc; rw [HP.out] at this; exact this)
          generalize kidsK l a = ks at *
          replace HLX := Lib.hid (HLX.out.on b5)
          replace HPX := Lib.hid (HPX.out.on b5)
          replace BX := Lib.hid (bstep BX.out b5)
          clear ok b5 hlt
          go_wp2
          go_loopw [10, 11] (fun i _ wr => ∃ k : Nat, k ≤ ks.length ∧ i = .int .i64 k ∧ Hid (Below w5.heap.size w5 wr)) (fun i _ _ => ks.length - (intOf i).toNat)
          case atStart => exact ⟨0, Nat.zero_le _, rfl, Lib.hid (Below.refl _ _)⟩
          case round =>
            obtain ⟨k, hk, rfl, HX⟩ := hrel
            by_cases hlt : k < ks.length
            · obtain ⟨bk, offk, hAK, hin⟩ := HKC.out (by omega)
              subst hAK
              obtain ⟨hpk, hfk⟩ := HKP.out ks[k] (List.getElem_mem hlt)
              have HFK := Lib.hid hfk
              have HKI := Lib.hid (hin.on HX.out)
              have c0 := HKI.out.at hlt
              have i1 : (k : Int) < (ks.length : Int) := by omega
              have i2 : (0 : Int) ≤ (k : Int) := by omega
              have HL2 := Lib.hid (HLX.out.on HX.out)
              have HP2 := Lib.hid (HPX.out.on HX.out)
              have B2 := Lib.hid HX.out
              have HPK := Lib.hid hpk
              clear hin hpk hfk
              go_wp2_with fail
              refine (implPathOf_any _ l ks[k] _ HL2.out (by omega)).mono ?_
              rintro r w6 ⟨vq, rfl, oq, b6⟩
              rw [HPK.out] at oq
              obtain ⟨bq, offq, cq, rfl, hiq, hcq1, hcq2⟩ : ∃ bq offq cq, vq = .slice (some ⟨bq, offq, none⟩) (p.length + 1) cq ∧ IntIn w6 bq offq (ks[k] :: p) ∧ p.length + 1 ≤ cq ∧ cq ≤ maxLen := by
                obtain ⟨Aq, cq, rfl, h1, h2⟩ := oq.shape
                obtain ⟨bq, offq, rfl, hi⟩ := RowI.cells oq (by simp)
                exact ⟨bq, offq, cq, by simp, hi, by simpa using h1, h2⟩
              have htl := hiq.tail hcq1 hcq2
              replace HL2 := Lib.hid (HL2.out.on b6)
              replace HP2 := Lib.hid (HP2.out.on b6)
              replace HKI := Lib.hid (HKI.out.on b6)
              replace B2 := Lib.hid (bstep B2.out b6)
              have hne : ((p.length : Int) + 1 != (p.length : Int) + 1) = false := by simp
              have j1 : (1 : Int) ≤ (p.length : Int) + 1 := by omega
              have j2 : IntKind.i64.wrap ((p.length : Int) + 1) = (p.length : Int) + 1 := by rw [IntKind.wrap_i64]; omega
              clear oq b6 hiq c0
              by_cases hc1 : cq = 1
              · rw [if_pos hc1] at htl
                subst hc1
                have HTL : Hid (Reads w6 w6.heap.size (.slice (some ⟨bq, offq, none⟩) p.length 0) (intsD p)) := Lib.hid htl
                clear htl hcq1 hcq2
                have c0 := HKI.out.at hlt
                go_wp2_with fail
                refine (sameInts7 _ _ p _ HTL.out HP2.out (by omega)).mono ?_
                rintro r w7 ⟨rfl, b7⟩
                replace HL2 := Lib.hid (HL2.out.on b7)
                replace HKI := Lib.hid (HKI.out.on b7)
                replace B2 := Lib.hid (bstep B2.out b7)
                clear b7 c0
                have c0 := HKI.out.at hlt
                go_wp2_with fail
                refine (implIsFrom_any _ l a ks[k] _ HL2.out (by omega)).mono ?_
                rintro r w8 ⟨rfl, b8⟩
                rw [HFK.out]
                replace B2 := Lib.hid (bstep B2.out b8)
                clear b8 c0
                go_wp2
                go_roundw
                case rel => exact ⟨k + 1, by omega, by go_num, B2⟩
                case measure => simp [intOf]; omega
              · rw [if_neg hc1] at htl
                have HTL := Lib.hid htl
                clear htl
                have c0 := HKI.out.at hlt
                go_wp2_with fail
                refine (sameInts7 _ _ p _ HTL.out HP2.out (by omega)).mono ?_
                rintro r w7 ⟨rfl, b7⟩
                replace HL2 := Lib.hid (HL2.out.on b7)
                replace HKI := Lib.hid (HKI.out.on b7)
                replace B2 := Lib.hid (bstep B2.out b7)
                clear b7 c0
                have c0 := HKI.out.at hlt
                go_wp2_with fail
                refine (implIsFrom_any _ l a ks[k] _ HL2.out (by omega)).mono ?_
                rintro r w8 ⟨rfl, b8⟩
                rw [HFK.out]
                replace B2 := Lib.hid (bstep B2.out b8)
                clear b8 c0
                go_wp2
                go_roundw
                case rel => exact ⟨k + 1, by omega, by go_num, B2⟩
                case measure => simp [intOf]; omega
            · have HLE := Lib.hid (HLX.out.on HX.out)
              have BE := Lib.hid (bstep BX.out HX.out)
              have HPOS := Lib.hid (path_pos HV.out a)
              rw [HP.out, HH.out] at HPOS
              have HSELF := Lib.hid (from_self HV.out a)
              rw [HH.out] at HSELF
              have hpos := HPOS.out
              have HAB : Hid (fromB l a b = true → fromB l b a = true → a = b) := Lib.hid (from_anti HV.out)
              obtain ⟨X, hX⟩ : ∃ X, fromB l a b = X := ⟨_, rfl⟩
              have HXX := Lib.hid hX
              have hX2 : decide (a ∈ pathK l b) = X := hX
              have HX2 := Lib.hid hX2
              rw [hX] at HAB
              clear hX hX2 hk HX
              have hHH : (H == H) = true := by simp
              have hXX : (X == X) = true := by simp
              go_wp2_with fail
              refine (implIsFrom_any _ l a a _ HLE.out (by omega)).mono ?_
              rintro r w9 ⟨rfl, b9⟩
              rw [HSELF.out]
              replace HLE := Lib.hid (HLE.out.on b9)
              replace BE := Lib.hid (bstep BE.out b9)
              clear b9 hpos
              go_wp2_with fail
              refine (implIsFrom_any _ l a b _ HLE.out (by omega)).mono ?_
              rintro r w10 ⟨rfl, b10⟩
              rw [HXX.out]
              replace HLE := Lib.hid (HLE.out.on b10)
              replace BE := Lib.hid (bstep BE.out b10)
              clear b10
              cases X
              · go_wp2_with fail
                refine (implIsFrom_any _ l a b _ HLE.out (by omega)).mono ?_
                rintro r w12 ⟨rfl, b12⟩
                rw [HXX.out]
                replace HLE := Lib.hid (HLE.out.on b12)
                replace BE := Lib.hid (bstep BE.out b12)
                clear b12
                go_wp2_with fail
                refine (implPathOf_any _ l b _ HLE.out (by omega)).mono ?_
                rintro r w13 ⟨v13, rfl, o13, b13⟩
                obtain ⟨A13, c13, rfl, _, _⟩ := o13.shape
                have O13 := Lib.hid o13.owns.reads
                replace BE := Lib.hid (bstep BE.out b13)
                clear o13 b13
                go_wp2_with fail
                refine (hasInt_any _ (pathK l b) a _ O13.out (by have := pathK_len l b; omega)).mono ?_
                rintro r w14 ⟨rfl, rfl⟩
                rw [HX2.out]
                go_wp2
                go_ret
                exact ⟨rfl, BE.out⟩
              · go_wp2_with fail
                refine (implIsFrom_any _ l b a _ HLE.out (by omega)).mono ?_
                rintro r w11 ⟨rfl, b11⟩
                obtain ⟨Y, hY⟩ : ∃ Y, fromB l b a = Y := ⟨_, rfl⟩
                rw [hY]
                replace HLE := Lib.hid (HLE.out.on b11)
                replace BE := Lib.hid (bstep BE.out b11)
                clear b11
                cases Y
                · clear hY
                  go_wp2_with fail
                  refine (implIsFrom_any _ l a b _ HLE.out (by omega)).mono ?_
                  rintro r w12 ⟨rfl, b12⟩
                  rw [HXX.out]
                  replace HLE := Lib.hid (HLE.out.on b12)
                  replace BE := Lib.hid (bstep BE.out b12)
                  clear b12
                  go_wp2_with fail
                  refine (implPathOf_any _ l b _ HLE.out (by omega)).mono ?_
                  rintro r w13 ⟨v13, rfl, o13, b13⟩
                  obtain ⟨A13, c13, rfl, _, _⟩ := o13.shape
                  have O13 := Lib.hid o13.owns.reads
                  replace BE := Lib.hid (bstep BE.out b13)
                  clear o13 b13
                  go_wp2_with fail
                  refine (hasInt_any _ (pathK l b) a _ O13.out (by have := pathK_len l b; omega)).mono ?_
                  rintro r w14 ⟨rfl, rfl⟩
                  rw [HX2.out]
                  go_wp2
                  go_ret
                  exact ⟨rfl, BE.out⟩
                · have hab : (a == b) = true := by simpa using HAB.out (by first | rfl | trivial) hY
                  clear hY
                  go_wp2_with fail
                  refine (implIsFrom_any _ l a b _ HLE.out (by omega)).mono ?_
                  rintro r w12 ⟨rfl, b12⟩
                  rw [HXX.out]
                  replace HLE := Lib.hid (HLE.out.on b12)
                  replace BE := Lib.hid (bstep BE.out b12)
                  clear b12
                  go_wp2_with fail
                  refine (implPathOf_any _ l b _ HLE.out (by omega)).mono ?_
                  rintro r w13 ⟨v13, rfl, o13, b13⟩
                  obtain ⟨A13, c13, rfl, _, _⟩ := o13.shape
                  have O13 := Lib.hid o13.owns.reads
                  replace BE := Lib.hid (bstep BE.out b13)
                  clear o13 b13
                  go_wp2_with fail
                  refine (hasInt_any _ (pathK l b) a _ O13.out (by have := pathK_len l b; omega)).mono ?_
                  rintro r w14 ⟨rfl, rfl⟩
                  rw [HX2.out]
                  go_wp2
                  go_ret
                  exact ⟨rfl, BE.out⟩
  · have d0 : decide ((1048576 : Int) < (cd.length : Int)) = true := decide_eq_true (by omega)
    go_enter Try.func3, Try.ntmps3
    go_wp2_with fail
    refine (big_any _ _ _ _).mono ?_
    rintro r w1 ⟨rfl, rfl⟩
    rw [d0]
    go_wp2
    go_ret
    exact ⟨rfl, Below.refl _ _⟩
end Go.Proofs.Ytjnecehogebjkaa
