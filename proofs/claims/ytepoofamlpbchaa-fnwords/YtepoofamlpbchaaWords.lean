/- The walk of FnWords: at every code the call returns true and writes nothing that was there. No condition. -/
import Derived.Test.YtepoofamlpbchaaNames
import Derived.Test.YtepoofamlpbchaaPutW
import Derived.Test.YtepoofamlpbchaaDraws1
namespace Go.Proofs.Ytepoofamlpbchaa
open Go.RowKit

theorem and65535 (n : Int) : bits .and .i64 n 65535 = n % 65536 := by
  have e : bits .and .i64 n 65535 = IntKind.i64.wrap ((BitVec.ofInt 64 n &&& BitVec.ofInt 64 ((65535 : Nat) : Int)).toNat : Int) := rfl
  have h : (BitVec.ofInt 64 n &&& BitVec.ofInt 64 ((65535 : Nat) : Int)).toNat = (n % 65536).toNat := by
    rw [BitVec.toNat_and, BitVec.ofInt_natCast, BitVec.toNat_ofNat, BitVec.toNat_ofInt]
    rw [show 65535 % 2 ^ 64 = 2 ^ 16 - 1 from rfl, Nat.and_two_pow_sub_one_eq_mod]
    omega
  rw [e, h, IntKind.wrap_i64]
  omega
theorem word_enc (n : Int) : word (ub (n / 256)) (ub n) = n % 65536 := by
  unfold word; rw [ub_toNat, ub_toNat]; omega
/-- A word that was put is read back. -/
theorem getW_back (g cap : Nat) (b P : List UInt8) (n : Int) (w : World) (hr : Rd w w.heap.size (some ⟨g, 0, none⟩) P) (hP : P = b ++ encW n) (hb : b.length ≤ 1048576) :
    Calls Try.prog 14 #[.slice (some ⟨g, 0, none⟩) P.length cap, .int .i64 b.length] w fun e w' => e = .returned (.tuple #[.int .i64 (bits .and .i64 n 65535), .int .i64 P.length, .bool true]) ∧ ∃ n, w' = w.drewN n := by
  have hl : P.length = b.length + 2 := by rw [hP]; simp [encW]
  have h := implGetW_yes (some ⟨g, 0, none⟩) cap P b.length w hr (by omega) (by omega)
  have h1 : P[b.length]'(by omega) = ub (n / 256) := by subst hP; simp [encW]
  have h2 : P[b.length + 1]'(by omega) = ub n := by subst hP; simp [encW]
  rw [h1, h2, word_enc, ← and65535, show (b.length : Int) + 2 = (P.length : Int) by omega] at h
  exact h
theorem getW_cut (g cap : Nat) (b P : List UInt8) (n : Int) (w : World) (hP : P = b ++ encW n) (hb : b.length ≤ 1048576) :
    Calls Try.prog 14 #[.slice (some ⟨g, 0, none⟩) (P.length - 1) cap, .int .i64 b.length] w fun e w' => e = .returned (.tuple #[.int .i64 0, .int .i64 0, .bool false]) ∧ w = w' := by
  have hl : P.length = b.length + 2 := by rw [hP]; simp [encW]
  have h := implGetW_no (some ⟨g, 0, none⟩) cap (P.take (P.length - 1)) b.length w (by simp; omega) (by simp; omega)
  rw [List.length_take, Nat.min_eq_left (by omega)] at h
  exact h
/-- A string that was put is read back. -/
theorem getText_back (g cap : Nat) (b Q : List UInt8) (s : ByteArray) (w : World) (hr : Rd w w.heap.size (some ⟨g, 0, none⟩) Q) (hcap : Q.length ≤ cap) (hQ : Q = b ++ (encW s.size ++ s.data.toList)) (hs : s.size ≤ 60) (hb : b.length ≤ 1048576) :
    Calls Try.prog 20 #[.slice (some ⟨g, 0, none⟩) Q.length cap, .int .i64 b.length] w fun e w' => e = .returned (.tuple #[.string s, .int .i64 Q.length, .bool true]) ∧ ∃ n, w' = w.drewN n := by
  have hss : s.data.toList.length = s.size := by simp
  have hl : Q.length = b.length + 2 + s.size := by rw [hQ]; simp [encW]; omega
  have h1 : Q[b.length]'(by omega) = ub ((s.size : Int) / 256) := by subst hQ; simp [encW]
  have h2 : Q[b.length + 1]'(by omega) = ub (s.size : Int) := by subst hQ; simp [encW]
  have h := implGetText_yes (some ⟨g, 0, none⟩) cap Q b.length s.size w hr (by omega) hcap (by omega) (by rw [h1, h2, word_enc]; omega) hs (by omega)
  have hd : (Q.drop (b.length + 2)).take s.size = s.data.toList := by
    subst hQ
    rw [← List.append_assoc, List.drop_append_of_le_length (by simp [encW]), List.drop_of_length_le (by simp [encW]), List.nil_append, List.take_of_length_le (by omega)]
  rw [hd, show (b.length : Int) + 2 + (s.size : Int) = (Q.length : Int) by omega] at h
  exact h
theorem getText_cut (g cap : Nat) (b Q : List UInt8) (s : ByteArray) (w : World) (hr : Rd w w.heap.size (some ⟨g, 0, none⟩) Q) (hQ : Q = b ++ (encW s.size ++ s.data.toList)) (hs : s.size ≤ 60) (hb : b.length ≤ 1048576) :
    Calls Try.prog 20 #[.slice (some ⟨g, 0, none⟩) (Q.length - 1) cap, .int .i64 b.length] w fun e w' => e = .returned (.tuple #[.string ⟨#[]⟩, .int .i64 0, .bool false]) ∧ ∃ n, w' = w.drewN n := by
  have hss : s.data.toList.length = s.size := by simp
  have hl : Q.length = b.length + 2 + s.size := by rw [hQ]; simp [encW]; omega
  have hlt : (Q.take (Q.length - 1)).length = Q.length - 1 := by simp
  by_cases h0 : s.size = 0
  · have h := implGetText_none (some ⟨g, 0, none⟩) cap (Q.take (Q.length - 1)) b.length w (by omega) (by omega)
    rw [hlt] at h
    exact h
  · have h1 : (Q.take (Q.length - 1))[b.length]'(by omega) = ub ((s.size : Int) / 256) := by subst hQ; simp [encW]
    have h2 : (Q.take (Q.length - 1))[b.length + 1]'(by omega) = ub (s.size : Int) := by subst hQ; simp [encW]
    have hr2 : Rd w w.heap.size (some ⟨g, 0, none⟩) (Q.take (Q.length - 1)) := by
      rcases hr with h | ⟨b', off, e, hb', hc⟩
      · rw [h] at hl; simp at hl; omega
      · exact .inr ⟨b', off, e, hb', fun i hi => by rw [hlt] at hi; rw [hc i (by omega)]; simp⟩
    have h := implGetText_bad (some ⟨g, 0, none⟩) cap (Q.take (Q.length - 1)) b.length s.size w hr2 (by omega) (by omega) (by rw [h1, h2, word_enc]; omega) (by omega)
    rw [hlt] at h
    exact h
theorem Own.conv {w : World} {g n cap : Nat} {l : List UInt8} (h : Own w g (.slice (some ⟨g, 0, none⟩) n cap) l) : (convert 22 9 (.slice (some ⟨g, 0, none⟩) n cap)).run Try.prog w = .ok (.string ⟨l.toArray⟩) w := by
  obtain ⟨c, hv, hc, hr⟩ := h.rd
  simp only [Value.slice.injEq, true_and] at hv
  obtain ⟨rfl, rfl⟩ := hv
  refine conv_at w g 0 l.length cap l rfl (fun j hj => ?_)
  rcases hr with rfl | ⟨b, off, e, _, hcc⟩
  · simp at hj
  · simp only [Option.some.injEq, Addr.mk.injEq, and_true] at e
    obtain ⟨rfl, rfl⟩ := e
    exact hcc j hj
set_option maxHeartbeats 1000000 in
set_option maxRecDepth 100000 in
theorem words_walk (a0 : Option Addr) (len0 cap0 : Nat) (z0 : List Int) (w : World) (w0 : CameIn .u8 w a0 len0 cap0 z0) :
    Calls Try.prog 3 #[.slice a0 len0 cap0] w fun e w' => e = .returned (.bool true) ∧ Below w.heap.size w w' := by
  obtain ⟨l, rfl, hr⟩ := w0.rd
  clear w0
  by_cases hbig : l.length ≤ 1048576
  · have d0 : decide ((1048576 : Int) < (l.length : Int)) = false := decide_eq_false (by omega)
    go_enter Try.func3, Try.ntmps3
    go_wp2_with fail
    refine (big_any _ _ _ _).mono ?_
    rintro e w1 ⟨rfl, rfl⟩
    rw [d0]
    go_wp2_with fail
    refine (drawPutW_any _ _ l _ hr hbig).mono ?_
    rintro e w1 ⟨g1, v1, b, n, rfl, o1, hb3, hg1, b1⟩
    obtain ⟨c1, rfl, _, _⟩ := o1.rd
    go_wp2_with fail
    refine (implPutW_any _ _ b n _ o1.all (by omega)).mono ?_
    rintro e w2 ⟨g2, v2, rfl, o2, hg2, b2⟩
    obtain ⟨P, hP⟩ : ∃ P, P = b ++ encW n := ⟨_, rfl⟩
    rw [← hP] at o2
    have HP := Lib.hid hP
    have hPl : P.length ≤ 1048576 := by rw [hP]; simp [encW]; omega
    have hP1 : 1 ≤ P.length := by rw [hP]; simp [encW]
    clear hP
    obtain ⟨c2, rfl, hc2, _⟩ := o2.rd
    have bb2 := bstep b1 b2
    have r2 := hr.on bb2
    clear b1 b2 o1
    go_wp2_with fail
    refine (getW_back g2 c2 b P n _ o2.all HP.out (by omega)).mono ?_
    rintro e _ ⟨rfl, n1, rfl⟩
    go_wp2_with fail
    refine (getW_cut g2 c2 b P n _ HP.out (by omega)).mono ?_
    rintro e w3 ⟨rfl, rfl⟩
    clear o2
    go_wp2_with fail
    refine (drawPutText_any _ _ l _ (r2.drewN n1) hbig).mono ?_
    rintro e w4 ⟨g4, v4, c, s, rfl, o4, hc3, hs61, hg4, b4⟩
    have bb4 := bstep (bdrew bb2 n1) b4
    obtain ⟨c4, rfl, _, _⟩ := o4.rd
    clear bb2 r2 b4
    go_wp2_with fail
    refine (implPutText_any _ _ c s _ o4.all (by omega) (by unfold maxLen; omega)).mono ?_
    rintro e w5 ⟨g5, v5, rfl, o5, hg5, b5⟩
    have bb5 := bstep bb4 b5
    have o45 := o4.on b5
    have h62 := encText_le s
    obtain ⟨Q, hQ⟩ : ∃ Q, Q = c ++ encText s := ⟨_, rfl⟩
    rw [← hQ] at o5
    have HQ := Lib.hid hQ
    have hQl : Q.length ≤ 1048576 := by rw [hQ, List.length_append]; omega
    clear hQ h62 bb4 b5 o4
    obtain ⟨c5, rfl, hc5, _⟩ := o5.rd
    go_wp2_with fail
    refine (drawNameOk_any _ _ l _ (hr.on bb5) hbig).mono ?_
    rintro e w6 ⟨a, rfl, ha7, b6⟩
    have bb6 := bstep bb5 b6
    have o46 := o45.on b6
    have o56 := o5.on b6
    have hma : a.size ≤ maxLen := by unfold maxLen; omega
    clear o45 o5 b6 bb5
    go_wp2_with fail
    refine (implNameOk_any _ _ hma).mono ?_
    rintro e w7 ⟨rfl, rfl⟩
    go_wp2_with fail
    refine (specNameOk_any _ _ hma).mono ?_
    rintro e w7 ⟨rfl, rfl⟩
    by_cases h60 : s.size ≤ 60
    · have d1 : decide (60 < s.size) = false := decide_eq_false (by omega)
      have HQ2 : Hid (Q = c ++ (encW s.size ++ s.data.toList)) := Lib.hid (by rw [HQ.out, encText, if_pos h60])
      have hQ1 : 1 ≤ Q.length := by rw [HQ2.out]; simp [encW]; omega
      go_wp2_with fail
      refine (getText_back g5 c5 c Q s _ o56.all hc5 HQ2.out h60 (by omega)).mono ?_
      rintro e _ ⟨rfl, n2, rfl⟩
      have r56 := o56.all.drewN n2
      go_wp2_with fail
      refine (getText_cut g5 c5 c Q s _ r56 HQ2.out h60 (by omega)).mono ?_
      rintro e _ ⟨rfl, n3, rfl⟩
      go_wp2
      go_ret
      exact ⟨rfl, bdrew bb6 (n2 + n3)⟩
    · have d1 : decide (60 < s.size) = true := decide_eq_true (by omega)
      have hQ2 : Q = c := by rw [HQ.out, encText, if_neg h60, List.append_nil]
      subst hQ2
      have k1 := o56.conv
      have k2 := o46.conv
      go_wp2
      go_ret
      exact ⟨rfl, bb6⟩
  · have d0 : decide ((1048576 : Int) < (l.length : Int)) = true := decide_eq_true (by omega)
    go_enter Try.func3, Try.ntmps3
    go_wp2_with fail
    refine (big_any _ _ _ _).mono ?_
    rintro e w1 ⟨rfl, rfl⟩
    rw [d0]
    go_wp2
    go_ret
    exact ⟨rfl, Below.refl _ _⟩
end Go.Proofs.Ytepoofamlpbchaa
