/- Contracts of spec.l2Op, spec.l2Write and spec.l2Flush over a device in a box of the call's own. Conditions: the device is valid. -/
import Derived.Test.YtmeiobpeacdfjaaDevFlush
namespace Go.Proofs.Ytmeiobpeacdfjaa
open Go.RowKit
set_option maxRecDepth 100000
set_option linter.unusedSimpArgs false
set_option linter.unusedVariables false

/-- Block p holds a device whose memory lies in S. -/
def PDev (w : World) (p : Nat) (S : Nat → Prop) (d : DevD) : Prop := ∃ A0 c0 A1 c1, w.heap[p]? = some (.cells #[.slice A0 d.secs.length c0, .slice A1 d.cache.length c1, .int .i64 d.fuse, .bool d.down] 27) ∧ OwnDev w S (.agg #[.slice A0 d.secs.length c0, .slice A1 d.cache.length c1, .int .i64 d.fuse, .bool d.down]) d ∧ ¬ S p
def Opped (w : World) (p : Nat) (v0 v1 : Value) (f : Int) (dn : Bool) (e : Ending) (w' : World) : Prop := e = .returned (.bool (!(f == 0))) ∧ w'.heap[p]? = some (.cells #[v0, v1, .int .i64 (spendF f), .bool (downF f dn)] 27) ∧ Only (fun x => x = p) w w'
theorem l2Op_any (p : Nat) (v0 v1 : Value) (f : Int) (dn : Bool) (w : World) (h : w.heap[p]? = some (.cells #[v0, v1, .int .i64 f, .bool dn] 27)) (hf : f ≤ 1000000) :
    Calls Try.prog 91 #[.pointer (some ⟨p, 0, none⟩)] w (Opped w p v0 v1 f dn) := by
  obtain ⟨x0, x1, x2, x3, x4⟩ := box4 h
  have H := Lib.hid h
  clear h
  by_cases h0 : f = 0
  · subst h0
    go_enter Try.func91, Try.ntmps91
    go_wp2
    go_ret
    exact ⟨rfl, box_set (box_set H.out), ((Only.refl (fun x => x = p) w).setCell rfl _).setCell rfl _⟩
  · have k0 : (f == 0) = false := by simp [h0]
    have KB : Hid ((!(f == 0)) = true) := Lib.hid (by simp [h0])
    have H0 : Hid (downF f dn = dn) := Lib.hid (if_neg h0)
    by_cases h1 : 0 < f
    · have E : Hid (spendF f = f - 1) := Lib.hid (by unfold spendF; rw [if_neg h0, if_pos h1])
      have H2 := Lib.hid (box_set (i := 2) (u := .int .i64 (f - 1)) H.out)
      clear h0
      go_enter Try.func91, Try.ntmps91
      go_wp2
      go_ret
      exact ⟨ret_boolB KB.out.symm, by rw [E.out, H0.out]; exact H2.out, (Only.refl (fun x => x = p) w).setCell rfl _⟩
    · have E : Hid (spendF f = f) := Lib.hid (by unfold spendF; rw [if_neg h0, if_neg h1])
      clear h0
      go_enter Try.func91, Try.ntmps91
      go_wp2
      go_ret
      exact ⟨ret_boolB KB.out.symm, by rw [E.out, H0.out]; exact H.out, Only.refl _ _⟩
def PTo (w : World) (p : Nat) (S : Nat → Prop) (d : DevD) (e : Ending) (w' : World) : Prop := e = .returned (.tuple #[]) ∧ PDev w' p (fun x => S x ∨ w.heap.size ≤ x) d ∧ Only (fun x => x = p ∨ S x) w w'
theorem Rd.at {w : World} {B : Nat} {A : Option Addr} {l : List UInt8} (h : Rd w B A l) : At w A (bv l) := by
  rcases h with rfl | ⟨b, off, rfl, _, hc⟩
  · exact .inl rfl
  · refine .inr ⟨b, off, rfl, fun i hi => ?_⟩
    rw [bv_length] at hi
    rw [hc i hi]; simp [bv]
theorem row_bytes {w : World} {base n : Nat} {v : Value} {l : List UInt8} (h : w.ownsRow base 5 1 v n (bv l)) : Owns w (fun b => base ≤ b) v (bytesD l) := by
  have hn : n = l.length := by have := h.1; rw [bv_length] at this; omega
  subst hn
  refine row_owns h ⟨by simp [bv_length], fun _ _ => False, fun i a b => ?_, fun _ _ h => h.elim, fun _ _ _ _ h => h.elim⟩ (by simp)
  simp only [bv, List.getElem_map]; exact .lit _ _
theorem inner_app (wr w6 : World) {v6 : Value} (l : List UInt8) (o6 : w6.ownsRow wr.heap.size 5 1 v6 (0 + l.length) ([] ++ bv l)) (g6 : (wr.drew.alloc (.cells #[] 5)).grownBy w6 (Value.slice (some ⟨wr.drew.heap.size, 0, none⟩) 0 0).ownBlock) : Below wr.heap.size wr w6 ∧ Owns w6 (fun b => wr.heap.size ≤ b) v6 (bytesD l) ∧ ∃ A c, v6 = .slice A l.length c := by
  refine ⟨?_, row_bytes (by simpa using o6), by rw [Nat.zero_add] at o6; exact row_form o6⟩
  have h : Below wr.heap.size wr (wr.drew.alloc (.cells #[] 5)) := (Below.refl _ _).drew.alloc (Nat.le_refl _) _
  exact h.grown g6 h.size (fun k hk => by simp [Value.ownBlock] at hk; subst hk; exact Nat.le_refl _)
set_option maxHeartbeats 4000000 in
theorem l2Write_any (p : Nat) (n : Int) (b : Value) (d : DevD) (l : List UInt8) (S : Nat → Prop) (w : World) (hd : PDev w p S d) (hok : okD d = true) (hlk : ∀ w', Only (fun x => x = p) w w' → Reads w' w'.heap.size b (bytesD l)) (hll : l.length ≤ 1048576) :
    Calls Try.prog 68 #[.pointer (some ⟨p, 0, none⟩), .int .i64 n, b] w (PTo w p S (writeD d n l)) := by
  have HD := Lib.hid hd
  have hl := hlk w (Only.refl _ _)
  have HL := Lib.hid hlk
  have OK := Lib.hid hok
  have FB := (okD_iff _).1 hok
  have f1 : d.fuse ≤ 1000 := FB.2.2.2.2.2.2
  have f0 : -1 ≤ d.fuse := FB.2.2.2.2.2.1
  have sl : d.secs.length ≤ 60 := FB.2.1
  have sl1 : 1 ≤ d.secs.length := FB.1
  have cl : d.cache.length ≤ 60 := FB.2.2.1
  obtain ⟨A0, c0, A1, c1, q, od, hSp⟩ := hd
  obtain ⟨Ab, cb, rfl, _, _, _⟩ := hl.bytes
  obtain ⟨x0, x1, x2, x3, x4⟩ := box4 q
  have Q := Lib.hid q
  have OD := Lib.hid od
  have HSP := Lib.hid hSp
  have hpl : p < w.heap.size := (Array.getElem?_eq_some_iff.1 q).1
  have SAME : Hid (¬ canW d n l → PTo w p S (writeD d n l) (.returned (.tuple #[])) w) := Lib.hid (fun h => ⟨rfl, by rw [writeD_no h]; exact ⟨A0, c0, A1, c1, q, od.mono (fun b hb => .inl hb), fun h => h.elim hSp (fun h => by omega)⟩, Only.refl _ _⟩)
  clear FB hok hl hlk q od hSp HD
  obtain ⟨ss, cs, f, dn⟩ := d
  dsimp only at *
  cases dn
  · by_cases hn : 0 ≤ n ∧ n < ss.length
    · by_cases hl8 : l.length ≤ 80
      · have k1 : decide ((80 : Int) < (l.length : Int)) = false := decide_eq_false (by omega)
        by_cases hc : cs.length < 60
        · have k2 : decide ((60 : Int) ≤ (cs.length : Int)) = false := decide_eq_false (by omega)
          have CAN : Hid (canW ⟨ss, cs, f, false⟩ n l) := Lib.hid ⟨OK.out, rfl, hn, hl8, hc⟩
          go_enter Try.func68, Try.ntmps68
          go_wp2_with fail
          refine (l1In_yes _ _ _ _ hn.1 (by omega)).mono ?_
          rintro e w1 ⟨rfl, rfl⟩
          go_wp2_with fail
          refine (l2Op_any p _ _ f false _ Q.out (by omega)).mono ?_
          rintro e w2 ⟨rfl, q2, o2⟩
          have hz2 := o2.size
          clear x0 x1 x2 x3 x4
          by_cases hf : f = 0
          · subst hf
            have e1 : spendF 0 = -1 := rfl
            have e2 : downF 0 false = true := rfl
            rw [e1, e2] at q2
            have FIN : Hid (PTo w p S (writeD ⟨ss, cs, 0, false⟩ n l) (.returned (.tuple #[])) w2) := by
              refine Lib.hid ⟨rfl, ?_, o2.mono (fun x hx => .inl hx)⟩
              rw [writeD_down CAN.out rfl]
              exact ⟨A0, c0, A1, c1, q2, (OD.out.turn.far o2 (fun b hb _ hb' => HSP.out (hb' ▸ hb))).mono (fun b hb => .inl hb), fun h => h.elim HSP.out (fun h => by omega)⟩
            clear q2 o2
            go_wp2
            exact bodyPost_ret (v := .tuple #[]) (by simp [results, Try.results68, go_sem]) rfl FIN.out
          · have e2 : downF f false = false := if_neg hf
            rw [e2] at q2
            have E2 := Lib.hid e2
            have HF := Lib.hid hf
            have KB : (f == 0) = false := by simpa using hf
            rw [KB]
            have OS := OD.out.turn (f' := spendF f) (b' := false)
            generalize hf2 : spendF f = f2 at *
            have HF2 := Lib.hid hf2
            clear hf2 e2 hf KB
            have O5 := OS.far o2 (fun b hb _ hb' => HSP.out (hb' ▸ hb))
            obtain ⟨u0, u1, he, ol⟩ := O5.lt
            simp at he
            obtain ⟨rfl, rfl⟩ := he
            obtain ⟨S0, S1, s0, s1, hS0, hS1, hdj⟩ := ol.pair
            obtain ⟨xs, hrow, hxs, hg1⟩ := s1.rowL 0 (fun b hb => Nat.zero_le _)
            have hO2 := Lib.hid o2
            have RB := Lib.hid (HL.out w2 o2)
            obtain ⟨_, _, hbe, _, _, rb⟩ := RB.out.bytes
            cases hbe
            have hq1 : (Value.slice A1 cs.length c1).ownBlock ≠ some p := fun h => HSP.out (hS1 _ (hg1 _ h)).1
            have hpl2 : p < w2.heap.size := by omega
            have Q5 := Lib.hid q2
            have ROW := Lib.hid hrow
            have HXS := Lib.hid hxs
            have HG1 := Lib.hid hg1
            have SS0 := Lib.hid s0
            have HS0 := Lib.hid hS0
            have HS1 := Lib.hid hS1
            have HDJ := Lib.hid hdj
            have HQ1 := Lib.hid hq1
            have BL : Hid ((bv l).length = l.length * 1) := Lib.hid (by rw [bv_length]; omega)
            have AT := Lib.hid (Rd.at (rb.on ((Below.refl _ _).drew.alloc (Nat.le_refl _) (.cells #[] 5))))
            have HZ1 : Hid (w2.heap.size ≤ (w2.drew.alloc (.cells #[] 5)).heap.size) := Lib.hid (Nat.le_of_lt (by rw [World.size_alloc]; exact Nat.lt_succ_self _))
            obtain ⟨z0, z1, z2, z3, z4⟩ := box4 q2
            clear q2 hrow hxs hg1 s0 s1 hS0 hS1 hdj hq1 ol O5 OS o2 rb
            go_wp2
            go_region_law
              (first
                | (refine step_appV _ (by rfl) (.tmp 45) (.tmp 46) 22 5 1 1 (.int .u8 0) (by rfl) Try.underlying22 (by kernel_rfl) rfl (by omega) (by omega) w2.heap.size 0 _ [] (by rfl) (row_lit w2.drew 5 1) Ab l.length cb (bv l) (by rfl) BL.out AT.out (bv_one _) (by omega) HZ1.out ?_; intro v6 w6 o6' g6' _ _; obtain ⟨b6, o6, A6, c6, rfl⟩ := inner_app w2 _ _ o6' g6'; obtain ⟨a0, a1, a2, a3, a4⟩ := box4 (box_on Q5.out b6); have hz6 := b6.size; have hz7 : p < w6.heap.size := (by omega); have B6 := Lib.hid b6; have O6 := Lib.hid o6; clear o6 o6' g6' b6)
                | (refine step_appV _ (by rfl) (.tmp 43) (.tmp 49) 25 78 2 32 (.agg #[.int .i64 0, .slice none 0 0]) (by rfl) Try.underlying25 (by kernel_rfl) rfl (by omega) (by omega) 0 cs.length _ xs (by rfl) (row_on (row_on ROW.out B6.out) (bal1 _ _)) _ 1 1 [.int .i64 n, .slice A6 l.length c6] (by rfl) rfl (At.lit2 _ _ _ _) (by simp [Value.oneCell']) (by omega) (Nat.zero_le _) ?_; intro v8 w8 o8 g8 n8 at8; have h8 := box_grown (box_on (box_on Q5.out B6.out) (bal1 _ _)) g8 HQ1.out; obtain ⟨gv, cv, rfl⟩ := row_shape o8 (by omega); obtain ⟨f0', f1', f2', f3', f4'⟩ := box4 h8; have H8 := Lib.hid h8; have O8 := Lib.hid o8; have G8 := Lib.hid g8; have AT8 := Lib.hid at8; clear h8 o8 g8 at8 n8))
            all_goals
              have OD8 := Lib.hid (OwnDev.app (d := ⟨ss, cs, f2, false⟩) (n := n) (l := l) SS0.out HS0.out HS1.out HDJ.out (fun b hb => (HS0.out b hb).2) (fun b hb => (HS1.out b hb).2) HXS.out HG1.out (bstep B6.out (bal1 _ _)) (O6.out.on (bal1 _ _)).lt O8.out G8.out AT8.out rfl rfl)
              have hz8 := G8.out.size
              simp only [World.size_alloc] at hz8
              have FIN : Hid (PTo w p S (writeD ⟨ss, cs, f, false⟩ n l) (.returned (.tuple #[])) (w8.setCell ⟨p, 1, none⟩ (.slice (some ⟨gv, 0, none⟩) (cs.length + 1) cv))) := by
                refine Lib.hid ⟨rfl, ?_, ?_⟩
                · rw [writeD_yes CAN.out HF.out]
                  simp only [spend, HF2.out, E2.out]
                  refine ⟨A0, c0, some ⟨gv, 0, none⟩, cv, by simpa using box_set (i := 1) (u := .slice (some ⟨gv, 0, none⟩) (cs.length + 1) cv) H8.out, ?_, fun h => h.elim HSP.out (fun h => by omega)⟩
                  have h := (OD8.out.far ((Only.refl (fun x => x = p) w8).setCell (j := 1) rfl (.slice (some ⟨gv, 0, none⟩) (cs.length + 1) cv)) (fun b hb _ hb' => hb.elim (fun h => HSP.out (hb' ▸ h.1)) (fun h => by omega))).mono (T := fun x => S x ∨ w.heap.size ≤ x) (fun b hb => hb.elim (fun h => .inl h.1) (fun h => .inr (by omega)))
                  simpa using h
                · refine Only.trans (hO2.out.mono (fun x hx => .inl hx)) (((Only.of_below (bstep B6.out (bal1 _ _)) _).trans ⟨G8.out.os, G8.out.tape, G8.out.output, G8.out.size, fun i hi hn => G8.out.block i hi (fun e => hn (.inr (HS1.out i (HG1.out i e.symm)).1))⟩).setCell (.inl rfl) _)
              clear z0 z1 z2 z3 z4 a0 a1 a2 a3 a4 O6 B6 O8 G8 AT8 H8 HXS HG1 ROW Q5 RB HQ1 OD8 SAME Q OD
              go_wp2
              exact bodyPost_ret (v := .tuple #[]) (by simp [results, Try.results68, go_sem]) rfl FIN.out
        · have k2 : decide ((60 : Int) ≤ (cs.length : Int)) = true := decide_eq_true (by omega)
          go_enter Try.func68, Try.ntmps68
          go_wp2_with fail
          refine (l1In_yes _ _ _ _ hn.1 (by omega)).mono ?_
          rintro e w1 ⟨rfl, rfl⟩
          go_wp2
          exact bodyPost_ret (v := .tuple #[]) (by simp [results, Try.results68, go_sem]) rfl (SAME.out (fun h => hc h.2.2.2.2))
      · have k1 : decide ((80 : Int) < (l.length : Int)) = true := decide_eq_true (by omega)
        go_enter Try.func68, Try.ntmps68
        go_wp2_with fail
        refine (l1In_yes _ _ _ _ hn.1 (by omega)).mono ?_
        rintro e w1 ⟨rfl, rfl⟩
        go_wp2
        exact bodyPost_ret (v := .tuple #[]) (by simp [results, Try.results68, go_sem]) rfl (SAME.out (fun h => hl8 h.2.2.2.1))
    · go_enter Try.func68, Try.ntmps68
      go_wp2_with fail
      refine (l1In_no _ _ _ _ (by omega)).mono ?_
      rintro e w1 ⟨rfl, rfl⟩
      go_wp2
      exact bodyPost_ret (v := .tuple #[]) (by simp [results, Try.results68, go_sem]) rfl (SAME.out (fun h => hn h.2.2.1))
  · go_enter Try.func68, Try.ntmps68
    go_wp2
    exact bodyPost_ret (v := .tuple #[]) (by simp [results, Try.results68, go_sem]) rfl (SAME.out (fun h => by cases h.2.1))
end Go.Proofs.Ytmeiobpeacdfjaa
