/- A law of our own on a range over a function: the iterator hands out a list (SeqL), and may itself range over another iterator and keep cells of its own; the body turns blocks from n₀ to where the loop began, new ones, and rows of elements of one type E. No condition: general lemmas. -/
import Derived.Test.YtmpgmjnagpiijaaMem
import Derived.RangeFuncNested
import Derived.RangeFuncBound
import Derived.RangeFuncCalls
import Derived.RangeFuncLeaves
import Derived.Shelf.Abstract
import Derived.Shelf.RegionOpen
import Derived.WalkKit
import Derived.OwnWalkIn
import Derived.TacticsInMore
import Derived.LoopNIn
import Derived.LoopIn
namespace Go.Proofs.Ytmpgmjnagpiijaa
open Go.RowKit Go.Shelf
set_option maxRecDepth 100000
set_option linter.unusedSimpArgs false
set_option linter.unusedVariables false

theorem round_any {P : Program} {n m l : Nat} {f : FuncId} {tmps : Array Value} {assign body : Code} {w : World} {R : Ending → World → Prop} (h : RoundIn Fence.wide n P l f tmps assign body w R) : RoundIn Fence.wide m P l f tmps assign body w R :=
  ⟨h.1, fun c cs _ => h.2 c cs (room_wide _)⟩
/-- A call of yield goes through, as one round of loop l. -/
def Yields (P : Program) (l : Nat) (args : Array Value) (W : World) (R : Ending → World → Prop) : Prop :=
  ∃ fn tmps assign body, (Instr.yield l args).run P W = .ok (.round l fn tmps assign body) W ∧ ∀ m, RoundIn Fence.wide m P l fn tmps assign body W R
/-- V' is V but for blocks from n₀ to B, rows of elements of type E from B on, and new blocks. -/
structure Kept (E : TypeId) (n₀ B : Nat) (V V' : World) : Prop where
  os : V'.os = V.os
  tape : V'.tape = V.tape
  output : V'.output = V.output
  size : V.heap.size ≤ V'.heap.size
  block : ∀ k, k < V.heap.size → (k < n₀ ∨ (B ≤ k ∧ ∀ cur, V.heap[k]? ≠ some (.cells cur E (0, 0)))) → V'.heap[k]? = V.heap[k]?
theorem Kept.refl (E : TypeId) (n₀ B : Nat) (V : World) : Kept E n₀ B V V := ⟨rfl, rfl, rfl, Nat.le_refl _, fun _ _ _ => rfl⟩
theorem Kept.trans {E : TypeId} {n₀ B : Nat} {V V' V'' : World} (h : Kept E n₀ B V V') (k : Kept E n₀ B V' V'') : Kept E n₀ B V V'' :=
  ⟨k.os.trans h.os, k.tape.trans h.tape, k.output.trans h.output, Nat.le_trans h.size k.size, fun i hi hc => by
    have e := h.block i hi hc
    refine (k.block i (Nat.lt_of_lt_of_le hi h.size) ?_).trans e
    rcases hc with hc | ⟨h1, h2⟩
    · exact .inl hc
    · exact .inr ⟨h1, fun cur => by rw [e]; exact h2 cur⟩⟩
theorem Kept.mono {E : TypeId} {n₀ n₁ B B' : Nat} {V V' : World} (h : Kept E n₀ B V V') (hn : n₁ ≤ n₀) (hB : B ≤ B') : Kept E n₁ B' V V' :=
  ⟨h.os, h.tape, h.output, h.size, fun k hk hc => h.block k hk (hc.elim (fun h => .inl (by omega)) (fun h => .inr ⟨by omega, h.2⟩))⟩
theorem Only.kept {S : Nat → Prop} {V V' : World} (h : Only S V V') (E : TypeId) {n₀ B : Nat} (hS : ∀ b, S b → n₀ ≤ b ∧ (B ≤ b → ∃ cur, V.heap[b]? = some (.cells cur E (0, 0)))) : Kept E n₀ B V V' :=
  ⟨h.os, h.tape, h.output, h.size, fun k hk hc => h.block k hk (fun hs => by
    rcases hc with hc | ⟨h1, h2⟩
    · have := (hS k hs).1; omega
    · obtain ⟨cur, hcur⟩ := (hS k hs).2 h1
      exact h2 cur hcur)⟩
theorem Kept.of_below {V V' : World} (h : Below V.heap.size V V') (E : TypeId) (n₀ B : Nat) : Kept E n₀ B V V' := ⟨h.os, h.tape, h.output, h.size, fun k hk _ => h.block k hk⟩
theorem Kept.below {E : TypeId} {n₀ B : Nat} {V V' : World} (h : Kept E n₀ B V V') : Below n₀ V V' ∨ V.heap.size < n₀ := by
  by_cases hn : V.heap.size < n₀
  · exact .inr hn
  · exact .inl ⟨h.os, h.tape, h.output, h.size, fun k hk => h.block k (by omega) (.inl hk)⟩
theorem Kept.box {E : TypeId} {n₀ B : Nat} {V V' : World} (h : Kept E n₀ B V V') {k : Nat} {o : Obj} (hk : V.heap[k]? = some o) (hB : B ≤ k) (ho : ∀ cur, o ≠ .cells cur E (0, 0)) : V'.heap[k]? = some o :=
  (h.block k (Array.getElem?_eq_some_iff.1 hk).1 (.inr ⟨hB, fun cur e => ho cur (by rw [hk] at e; exact Option.some.inj e)⟩)).trans hk
/-- The closure g hands out the list xs, one by one, or a part of it if a round says so. -/
def SeqL {α : Type} (E : TypeId) (P : Program) (g : Nat) (lb : Array Value) (encs : α → Array Value) (n₀ : Nat) (xs : List α) (w : World) : Prop :=
  ∀ (l : Nat) (J Jx : List α → World → Prop) (W : World), Below w.heap.size w W → OwnFrom W.heap.size J → OwnFrom W.heap.size Jx →
    (∀ pre x V, pre ++ [x] <+: xs → J pre V → Yields P l (encs x) V fun e V' => (e = .returned (.bool true) ∧ J (pre ++ [x]) V' ∧ Kept E n₀ W.heap.size V V') ∨ (e = .returned (.bool false) ∧ Jx (pre ++ [x]) V' ∧ Kept E 0 W.heap.size V V')) →
    J [] W → Calls P g (#[.func (.yield l) #[] #[]] ++ lb) W fun e V' => (∃ v, e = .returned v) ∧ (J xs V' ∨ ∃ pre, pre <+: xs ∧ Jx pre V')
/-- How the body of a round may be left. -/
def leftL {α : Type} (E : TypeId) (n₀ B : Nat) (I : List α → World → Prop) (Ix : Code → List α → World → Prop) (ys : List α) (W : World) : Exit → Act → World → Prop
  | .normal, _, W' => Kept E n₀ B W W' ∧ I ys W'
  | .ret, _, W' => Kept E 0 B W W' ∧ Ix .ret ys W'
  | .exit id, _, W' => Kept E 0 B W W' ∧ Ix (.exit id) ys W'
  | .goto t, _, W' => Kept E 0 B W W' ∧ Ix (.goto t) ys W'
  | .panic _, _, _ => False
  | .outgrown, _, _ => False
theorem only_put {S : Nat → Prop} (W : World) (l : Nat) (o : Obj) (h : S l) : Only S W (W.putObj l o) := Only.of_grown (grownBy_putObj' W l o) h
theorem rangeL {α : Type} {E : TypeId} {P : Program} {n : Nat} {g : Operand} {ps : Array Tmp} {assign body : Code} {Q : Exit → Act → World → Prop} {a : Act} {w : World} {gf : Nat} {lb : Array Value}
    (hg : a.eval g = .func (.func gf) #[] lb) (eg : ∀ args w, (callFunc gf args).run P w = .ok (.enter gf args) w) {encs : α → Array Value} {n₀ : Nat} {xs : List α} {w0 : World} (hseq : SeqL E P gf lb encs n₀ xs w0) (hb0 : Below w0.heap.size w0 w) (hn₀ : n₀ ≤ w.heap.size) (hps : ∀ x, (encs x).size = ps.size)
    (I : List α → World → Prop) (Ix : Code → List α → World → Prop) (hI : OwnFrom w.heap.size I) (hIx : ∀ c, OwnFrom w.heap.size (Ix c)) (h0 : I [] w) (Ax : α → Act → World → Prop) (hAx : ∀ x a', OwnFrom w.heap.size (fun (_ : Unit) W => Ax x a' W))
    (hassign : ∀ (l : Nat) (pre : List α) (x : α) (W : World) (K : Act → World → Prop), pre ++ [x] <+: xs → I pre W → (∀ a' W', Only (fun _ => False) W W' → I pre W' → Ax x a' W' → K a' W') →
      assign.wpIn (Fence.wide.inRound l) n P (Exit.then K (fun _ _ _ => False)) { tmps := (ps.zip (encs x)).foldl (fun t (p, v) => t.setIfInBounds p v) a.tmps, defers := [] } W)
    (hbody : ∀ (l : Nat) (pre : List α) (x : α) (a' : Act) (W : World), pre ++ [x] <+: xs → I pre W → Ax x a' W → body.wpIn (Fence.wide.inRound l) n P (leftL E n₀ w.heap.size I Ix (pre ++ [x]) W) a' W)
    (hdone : ∀ (D : Nat) (W : World), w.heap.size ≤ D → I xs W → W.heap[D]? = some (.deferred (some [])) → Q .normal { a with defers := { target := .collected D, args := #[] } :: a.defers } W)
    (hstop : ∀ (D : Nat) (c : Code) (pre : List α) (W : World), w.heap.size ≤ D → pre <+: xs → Ix c pre W → W.heap[D]? = some (.deferred (some [])) → c.wpIn Fence.wide n P Q { a with defers := { target := .collected D, args := #[] } :: a.defers } W) :
    (Code.rangeFunc g ps assign body).wpIn Fence.wide n P Q a w := by
  refine wpIn_rangeFunc (fun fn hfn => ?_)
  let rec' (st : LoopState) (pe : Option Code) : Loop := { state := st, pending := pe, fn, tmps := a.tmps, params := ps, assign, body, defers := w.heap.size }
  obtain ⟨rc, hrc⟩ : ∃ rc, rc = rec' := ⟨_, rfl⟩
  obtain ⟨W1, hW1⟩ : ∃ W1, (w.alloc (.deferred (some []))).alloc (.loop (rc .ready none)) = W1 := ⟨_, rfl⟩
  have hz : W1.heap.size = w.heap.size + 2 := by rw [← hW1]; simp
  have q := al2 w (.deferred (some [])) (.loop (rc .ready none))
  rw [hW1] at q
  obtain ⟨q0, q1⟩ := q
  have hb1 : Below w.heap.size w W1 := by rw [← hW1]; exact bal2 _ _ _
  have keep : ∀ {A B : World} {row : Option Nat} {k : Nat} {o : Obj}, A.grownBy B row → (∀ r, row = some r → W1.heap.size ≤ r ∧ ∃ o : Obj, A.heap[r]? = some o ∧ o.isCells = false) → k < w.heap.size + 2 → A.heap[k]? = some o → B.heap[k]? = some o := by
    intro A B row k o hg' hr hk ho
    refine (hg'.block k (Array.getElem?_eq_some_iff.1 ho).1 (fun e => ?_)).trans ho
    have := (hr k e.symm).1
    omega
  have low : ∀ {A : World} {row : Option Nat}, (∀ r, row = some r → W1.heap.size ≤ r ∧ ∃ o : Obj, A.heap[r]? = some o ∧ o.isCells = false) → ∀ r, row = some r → w.heap.size ≤ r ∧ ∃ o : Obj, A.heap[r]? = some o ∧ o.isCells = false :=
    fun hr r e => ⟨by have := (hr r e).1; omega, (hr r e).2⟩
  refine ⟨w.heap.size + 1, [{ target := .collected w.heap.size, args := #[] }], W1, { target := .fn (.func gf) lb, args := #[.func (.yield (w.heap.size + 1)) #[] #[]] }, W1, gf,
    #[.func (.yield (w.heap.size + 1)) #[] #[]] ++ lb, W1, by rw [← hW1, hrc]; exact run_enterLoop_outer _ _ _ _ _, ?_, fun _ _ => trivial, ?_, (fun h => by cases h), callsIn_wide.2 ?_⟩
  · simp only [resolve, hg]
    simp [go_sem]
  · simp [invoke, go_sem, eg]
  · refine (hseq (w.heap.size + 1)
      (fun pre W => I pre W ∧ W.heap[w.heap.size + 1]? = some (.loop (rc .ready none)) ∧ W.heap[w.heap.size]? = some (.deferred (some [])))
      (fun pre W => ∃ c, Ix c pre W ∧ W.heap[w.heap.size + 1]? = some (.loop (rc .done (some c))) ∧ W.heap[w.heap.size]? = some (.deferred (some [])))
      W1 (hb0.trans (hb1.mono hb0.size))
      (fun s A B row hs hg' hr => ⟨hI s A B row hs.1 hg' (low hr), keep hg' hr (by omega) hs.2.1, keep hg' hr (by omega) hs.2.2⟩)
      (fun s A B row hs hg' hr => by
        obtain ⟨c, h1, h2, h3⟩ := hs
        exact ⟨c, hIx c s A B row h1 hg' (low hr), keep hg' hr (by omega) h2, keep hg' hr (by omega) h3⟩)
      ?_ ⟨by rw [← hW1]; exact hI.alloc _ (hI.alloc _ h0), q1, q0⟩).mono ?_
    · rintro pre x V hpx ⟨hi, hl, hk⟩
      have hy := run_yield (P := P) (args := encs x) hl (by rw [hrc]; exact hps x)
      rw [hrc] at hy
      refine ⟨fn, _, assign, body, hy, fun m => round_any (n := n) (roundIn_of_wpIn trivial (hassign _ pre x V _ hpx hi ?_))⟩
      clear hy
      intro a' Va hoa hia hax
      have hl' := box_only hl hoa (fun h => h)
      have hk' := box_only hk hoa (fun h => h)
      have hlt : w.heap.size + 1 < Va.heap.size := (Array.getElem?_eq_some_iff.1 hl').1
      refine ⟨_, run_beginRound hl' (by rw [hrc]), ?_⟩
      obtain ⟨Vb, hVb⟩ : ∃ Vb, Va.putObj (w.heap.size + 1) (.loop { rc .ready none with state := .busy }) = Vb := ⟨_, rfl⟩
      have hob : Only (fun b => b = w.heap.size + 1) Va Vb := by rw [← hVb]; exact only_put _ _ _ rfl
      have hlb : Vb.heap[w.heap.size + 1]? = some (.loop { rc .ready none with state := .busy }) := by rw [← hVb]; exact World.putObj_heap_same hlt
      have hkb : Vb.heap[w.heap.size]? = some (.deferred (some [])) := by rw [← hVb]; exact (World.putObj_heap_other (by omega)).trans hk'
      have hib : I pre Vb := by rw [← hVb]; exact hI.putObj _ hia (by omega) hl' rfl
      have hab : Ax x a' Vb := by rw [← hVb]; exact (hAx x a').putObj (s := ()) _ hax (by omega) hl' rfl
      rw [hVb]
      refine wpIn_mono (hbody _ pre x a' Vb hpx hib hab) ?_
      have fin : ∀ (jump : Option Code) (n₁ : Nat) (V3 : World), n₁ ≤ w.heap.size → Kept E n₁ w.heap.size Vb V3 → ∃ V4, (Instr.endRound (w.heap.size + 1) jump).run P V3 = .ok (.bool jump.isNone) V4 ∧ V4 = V3.putObj (w.heap.size + 1) (.loop (rc (if jump.isNone then .ready else .done) jump)) ∧
          V3.heap[w.heap.size + 1]? = some (.loop { rc .ready none with state := .busy }) ∧ V4.heap[w.heap.size + 1]? = some (.loop (rc (if jump.isNone then .ready else .done) jump)) ∧ V4.heap[w.heap.size]? = some (.deferred (some [])) ∧ Kept E n₁ W1.heap.size V V4 := by
        intro jump n₁ V3 hn1 ho3
        have hl3 := ho3.box hlb (by omega) (fun _ h => by cases h)
        have hk3 := ho3.box hkb (Nat.le_refl _) (fun _ h => by cases h)
        have hr := run_endRound (P := P) jump hl3
        rw [hrc] at hr ⊢
        refine ⟨_, hr, rfl, by rw [hrc] at hl3; exact hl3, World.putObj_heap_same (Array.getElem?_eq_some_iff.1 hl3).1, (World.putObj_heap_other (by omega)).trans hk3, ?_⟩
        have t1 : Kept E n₁ W1.heap.size V Va := hoa.kept E (fun _ h => h.elim)
        have t2 : Kept E n₁ W1.heap.size Va Vb := hob.kept E (fun b h => ⟨by omega, fun _ => by omega⟩)
        exact ((t1.trans t2).trans (ho3.mono (Nat.le_refl _) (by omega))).trans ((only_put (S := fun b => b = w.heap.size + 1) _ _ _ rfl).kept E (fun b h => ⟨by omega, fun _ => by omega⟩))
      rintro e a3 V3 hp
      cases e with
      | normal =>
        obtain ⟨ho3, hi3⟩ := hp
        obtain ⟨V4, hr, hV4, hl3, hl4, hk4, ho4⟩ := fin none n₀ V3 hn₀ ho3
        exact ⟨_, _, hr, .inl ⟨rfl, ⟨by rw [hV4]; exact hI.putObj _ hi3 (by omega) hl3 rfl, hl4, hk4⟩, ho4⟩⟩
      | ret =>
        obtain ⟨ho3, hi3⟩ := hp
        obtain ⟨V4, hr, hV4, hl3, hl4, hk4, ho4⟩ := fin (some .ret) 0 V3 (Nat.zero_le _) ho3
        exact ⟨_, _, hr, .inr ⟨rfl, ⟨.ret, by rw [hV4]; exact (hIx _).putObj _ hi3 (by omega) hl3 rfl, hl4, hk4⟩, ho4⟩⟩
      | exit id =>
        obtain ⟨ho3, hi3⟩ := hp
        obtain ⟨V4, hr, hV4, hl3, hl4, hk4, ho4⟩ := fin (some (.exit id)) 0 V3 (Nat.zero_le _) ho3
        exact ⟨_, _, hr, .inr ⟨rfl, ⟨.exit id, by rw [hV4]; exact (hIx _).putObj _ hi3 (by omega) hl3 rfl, hl4, hk4⟩, ho4⟩⟩
      | goto t =>
        obtain ⟨ho3, hi3⟩ := hp
        obtain ⟨V4, hr, hV4, hl3, hl4, hk4, ho4⟩ := fin (some (.goto t)) 0 V3 (Nat.zero_le _) ho3
        exact ⟨_, _, hr, .inr ⟨rfl, ⟨.goto t, by rw [hV4]; exact (hIx _).putObj _ hi3 (by omega) hl3 rfl, hl4, hk4⟩, ho4⟩⟩
      | panic ch => exact hp.elim
      | outgrown => exact hp.elim
    · rintro e W2 ⟨⟨v, rfl⟩, (⟨hi, hl, hk⟩ | ⟨pre, hpre, c, hi, hl, hk⟩)⟩
      · have he := run_endLoop (P := P) hl (by rw [hrc]; simp [rec'])
        rw [hrc] at he
        exact ⟨none, _, he, hdone _ _ (Nat.le_refl _) (hI.putObj _ hi (by omega) hl rfl) ((World.putObj_heap_other (by omega)).trans hk)⟩
      · have he := run_endLoop (P := P) hl (by rw [hrc]; simp [rec'])
        rw [hrc] at he
        exact ⟨some c, _, he, hstop _ c pre _ (Nat.le_refl _) hpre ((hIx c).putObj _ hi (by omega) hl rfl) ((World.putObj_heap_other (by omega)).trans hk)⟩
end Go.Proofs.Ytmpgmjnagpiijaa
