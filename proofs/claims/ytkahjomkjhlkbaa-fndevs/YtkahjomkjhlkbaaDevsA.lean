/- What FnDevs needs of devices as data: what a write and a flush do to each sector. No condition: plain lemmas. -/
import Derived.Test.YtkahjomkjhlkbaaDrawDev
import Derived.Test.YtkahjomkjhlkbaaDevReadI
import Derived.Test.YtkahjomkjhlkbaaConv
namespace Go.Proofs.Ytkahjomkjhlkbaa
open Go.RowKit
set_option maxRecDepth 100000

theorem appK_last (ls : List (List UInt8)) (ps : List (Int × List UInt8)) (i : Nat) (hi : i < ls.length) (hps : ∀ p ∈ ps, 0 ≤ p.1) : ∀ m, m ≤ ps.length → (appK all_ ls ps m)[i]'(by rw [appK_length]; exact hi) = lastB ps (i : Int) ls[i] m := by
  intro m
  induction m with
  | zero => intro _; rfl
  | succ m ih =>
    intro hm
    have h0 := hps ps[m] (List.getElem_mem _)
    simp only [appK_yes (show m < ps.length by omega) (show all_ m = true from rfl)]
    by_cases he : (ps[m]).1 = (i : Int)
    · rw [lastB_hit (by omega) he]
      have h1 : (ps[m]).1.toNat = i := by omega
      simp [h1]
    · rw [lastB_miss (by omega) he, List.getElem_set_ne (by omega)]
      exact ih (by omega)
theorem lastB_front {ps : List (Int × List UInt8)} {p : Int × List UInt8} {n : Int} {b : List UInt8} : ∀ m, m ≤ ps.length → lastB (ps ++ [p]) n b m = lastB ps n b m := by
  intro m
  induction m with
  | zero => intro _; rfl
  | succ m ih =>
    intro hm
    rw [lastB, lastB, List.getElem?_append_left (by omega), ih (by omega)]
theorem lastB_snoc {ps : List (Int × List UInt8)} {p : Int × List UInt8} {n : Int} {b : List UInt8} : lastB (ps ++ [p]) n b (ps ++ [p]).length = if p.1 = n then p.2 else lastB ps n b ps.length := by
  rw [List.length_append, List.length_singleton, lastB]
  simp only [List.getElem?_append_right (Nat.le_refl _), Nat.sub_self, List.getElem?_cons_zero]
  rw [lastB_front _ (Nat.le_refl _)]
def DevsOf (D X : DevD) (n : Nat) (b : List UInt8) (fs : List (List UInt8)) : Prop :=
  X = ⟨D.secs, D.cache ++ [((n : Int), b)], -1, false⟩ ∧ okD X = true ∧ flushD X = ⟨fs, [], -1, false⟩ ∧ fs.length = D.secs.length ∧ okD ⟨fs, [], -1, false⟩ = true ∧
    ∀ i (_ : i < D.secs.length) (hi' : i < fs.length), readD X (i : Nat) = fs[i] ∧ readD ⟨fs, [], -1, false⟩ (i : Nat) = fs[i] ∧ (i ≠ n → readD D (i : Nat) = fs[i]) ∧ (i = n → fs[i] = b)
theorem devs_of {D : DevD} {n : Nat} {b : List UInt8} (h : DrawnD 7 D) (hn : n < D.secs.length) (hb : b.length ≤ 80) : ∃ fs, DevsOf D (writeD D n b) n b fs := by
  have hX := drawn_write (n := n) (l := b) h (by omega)
  have hF := drawn_flush hX
  have hcan : canW D n b := ⟨h.1, h.2.2.1, ⟨by omega, by omega⟩, hb, by have := h.2.2.2.2.2; omega⟩
  have hf : D.fuse = -1 := h.2.1
  have hd : D.down = false := h.2.2.1
  have e1 : writeD D n b = ⟨D.secs, D.cache ++ [((n : Int), b)], -1, false⟩ := by
    unfold writeD
    rw [if_pos hcan, if_neg (by rw [hf]; decide)]
    simp [spend, hf, hd, spendF, downF]
  have okX : okD (writeD D n b) = true := hX.1
  have e2 : flushD (writeD D n b) = ⟨appK all_ D.secs (D.cache ++ [((n : Int), b)]) (D.cache ++ [((n : Int), b)]).length, [], -1, false⟩ := by
    rw [flushD_yes ⟨okX, by rw [e1]⟩ (by rw [e1]; show (-1 : Int) ≠ 0; decide), e1]
    simp [spendF]
  have hl := appK_length all_ D.secs (D.cache ++ [((n : Int), b)]) (D.cache ++ [((n : Int), b)]).length
  have okF : okD ⟨appK all_ D.secs (D.cache ++ [((n : Int), b)]) (D.cache ++ [((n : Int), b)]).length, [], -1, false⟩ = true := by rw [← e2]; exact hF.1
  have hps : ∀ p ∈ D.cache ++ [((n : Int), b)], 0 ≤ p.1 := fun p hp => by
    have q := ((okD_iff _).1 okX).2.2.2.2.1 p (by rw [e1]; exact hp)
    exact q.1
  refine ⟨_, e1, okX, e2, hl, okF, fun i hi hi' => ?_⟩
  have hlast := appK_last D.secs (D.cache ++ [((n : Int), b)]) i hi hps _ (Nat.le_refl _)
  have r1 : readD (writeD D n b) (i : Nat) = lastB (D.cache ++ [((n : Int), b)]) i D.secs[i] (D.cache ++ [((n : Int), b)]).length := by
    have hin : inD (writeD D n b) (i : Nat) := ⟨okX, by omega, by rw [e1]; show (i : Int) < (D.secs.length : Int); omega⟩
    rw [readD_yes hin (by rw [e1]; exact hi)]
    simp only [e1]
  have r2 : readD ⟨appK all_ D.secs (D.cache ++ [((n : Int), b)]) (D.cache ++ [((n : Int), b)]).length, [], -1, false⟩ (i : Nat) = (appK all_ D.secs (D.cache ++ [((n : Int), b)]) (D.cache ++ [((n : Int), b)]).length)[i] := by
    rw [readD_yes ⟨okF, by omega, by show (i : Int) < ((appK all_ D.secs (D.cache ++ [((n : Int), b)]) (D.cache ++ [((n : Int), b)]).length).length : Int); rw [hl]; omega⟩ hi']
    rfl
  refine ⟨r1.trans hlast.symm, r2, fun hne => ?_, fun he => ?_⟩
  · rw [hlast, lastB_snoc, if_neg (by simp; omega), readD_yes ⟨h.1, by omega, by omega⟩ hi]
  · rw [hlast, lastB_snoc, if_pos (by simp [he])]
end Go.Proofs.Ytkahjomkjhlkbaa
