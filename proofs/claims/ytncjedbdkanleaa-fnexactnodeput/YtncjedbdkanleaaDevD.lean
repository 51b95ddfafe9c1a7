/- Devices as data: sectors, cached writes, fuse, down; how they lie in memory; lists of cells read one by one. No condition: plain lemmas. -/
import Derived.Test.YtncjedbdkanleaaMem
namespace Go.Proofs.Ytncjedbdkanleaa
open Go.RowKit
set_option maxRecDepth 100000
set_option linter.unusedSimpArgs false
set_option linter.unusedVariables false

structure DevD where
  secs : List (List UInt8)
  cache : List (Int × List UInt8)
  fuse : Int
  down : Bool

def secsD (ls : List (List UInt8)) : Dat := .row 22 1 ls.length (ls.map bytesD)
def wrC (p : Int × List UInt8) : List Dat := [.lit (.int .i64 p.1), bytesD p.2]
theorem wrC_len (p : Int × List UInt8) : (wrC p).length = 2 := rfl
theorem cache_len (ps : List (Int × List UInt8)) : (ps.flatMap wrC).length = ps.length * 2 := flat_len wrC 2 ps wrC_len

/-- Element i of a slice of slices of bytes, in memory. -/
theorem Reads.sec {w : World} {B : Nat} {A : Option Addr} {n cap : Nat} {ls : List (List UInt8)} (h : Reads w B (.slice A n cap) (secsD ls)) {i : Nat} (hi : i < ls.length) :
    ∃ b off, A = some ⟨b, off, none⟩ ∧ b < B ∧ ∀ k (hk : k < ls.length), ∃ A2 c2, w.cell? ⟨b, off + k, none⟩ = some (.slice A2 (ls[k]).length c2) ∧ (ls[k]).length ≤ c2 ∧ c2 ≤ maxLen ∧ Rd w B A2 ls[k] := by
  obtain ⟨A', cap', hv, hn, hc, hl, _, k⟩ := h.row'
  cases hv
  rcases k with h | ⟨b, off, xs, rfl, hb, hx, hcell, hr⟩
  · simp at h; subst h; simp at hi
  · refine ⟨b, off, rfl, hb, fun k hk => ?_⟩
    have hx' : xs.length = ls.length := by simpa using hx
    have h1 := hr k (by omega) (by simpa using hk)
    rw [List.getElem_map] at h1
    have h2 := hcell k (by omega)
    generalize xs[k] = x at h1 h2
    obtain ⟨A2, c2, rfl, h3, h4, h5⟩ := h1.bytes
    exact ⟨A2, c2, h2, h3, h4, h5⟩
/-- Element i of a slice of cached writes. -/
theorem Reads.wr {w : World} {B : Nat} {A : Option Addr} {e n cap : Nat} {ps : List (Int × List UInt8)} (h : Reads w B (.slice A n cap) (.row e 2 ps.length (ps.flatMap wrC))) {i : Nat} (hi : i < ps.length) :
    ∃ b off, A = some ⟨b, off, none⟩ ∧ b < B ∧ ∀ k (hk : k < ps.length), w.cell? ⟨b, off + k * 2, none⟩ = some (.int .i64 (ps[k]).1) ∧ ∃ A2 c2, w.cell? ⟨b, off + k * 2 + 1, none⟩ = some (.slice A2 (ps[k]).2.length c2) ∧ (ps[k]).2.length ≤ c2 ∧ c2 ≤ maxLen ∧ Rd w B A2 (ps[k]).2 := by
  obtain ⟨A', cap', hv, hn, hc, hl, _, k⟩ := h.row'
  cases hv
  rcases k with h | ⟨b, off, xs, rfl, hb, hx, hcell, hr⟩
  · have := congrArg List.length h
    rw [cache_len] at this; simp only [List.length_nil] at this; omega
  · refine ⟨b, off, rfl, hb, fun k hk => ?_⟩
    rw [cache_len] at hx
    have get : ∀ j, j < 2 → ∃ x c, w.cell? ⟨b, off + (k * 2 + j), none⟩ = some x ∧ (wrC ps[k])[j]? = some c ∧ Reads w B x c := by
      intro j hj
      have hlt := flat_lt (z := 2) hk hj
      have h1 := hr (k * 2 + j) (by omega) (by rw [cache_len]; omega)
      have h2 := hcell (k * 2 + j) (by omega)
      have h3 := flat_get wrC 2 ps wrC_len k j hk hj
      rw [List.getElem?_eq_getElem (by rw [cache_len]; omega)] at h3
      exact ⟨_, _, h2, h3.symm, h1⟩
    obtain ⟨x0, c0, a0, b0, r0⟩ := get 0 (by omega)
    obtain ⟨x1, c1, a1, b1, r1⟩ := get 1 (by omega)
    simp [wrC] at b0 b1
    subst b0 b1
    cases r0
    obtain ⟨A2, c2, rfl, h3, h4, h5⟩ := r1.bytes
    exact ⟨a0, A2, c2, a1, h3, h4, h5⟩
theorem Reads.len {w : World} {B : Nat} {v : Value} {e z n : Nat} {cs : List Dat} (h : Reads w B v (.row e z n cs)) : ∃ A cap, v = .slice A n cap ∧ n ≤ cap ∧ cap ≤ maxLen := by
  obtain ⟨A, cap, hv, hn, hc, _⟩ := h.row'
  exact ⟨A, cap, hv, hn, hc⟩

theorem OwnsL.pair {w : World} {S : Nat → Prop} {v0 v1 : Value} {c0 c1 : Dat} (h : OwnsL w S [v0, v1] [c0, c1]) : ∃ S0 S1, Owns w S0 v0 c0 ∧ Owns w S1 v1 c1 ∧ (∀ b, S0 b → S b) ∧ (∀ b, S1 b → S b) ∧ ∀ b, S0 b → ¬ S1 b := by
  obtain ⟨_, F, ho, hF, hd⟩ := h
  exact ⟨F 0, F 1, ho 0 (by simp) (by simp), ho 1 (by simp) (by simp), hF 0, hF 1, fun b => hd 0 1 b (by omega)⟩
/-- No slice of it is longer than 2^20. -/
def SmallD (d : DevD) : Prop := d.secs.length ≤ 1048576 ∧ d.cache.length ≤ 1048576 ∧ (∀ l ∈ d.secs, l.length ≤ 1048576) ∧ ∀ p ∈ d.cache, p.2.length ≤ 1048576
end Go.Proofs.Ytncjedbdkanleaa
