/- Contracts of spec.TreeNew and impl.TreeNew. No condition. -/
import Derived.Test.YtmpgmjnagpiijaaTreePure
import Derived.Test.YtmpgmjnagpiijaaNodeSKeys
namespace Go.Proofs.Ytmpgmjnagpiijaa
open Go.RowKit
set_option maxRecDepth 100000
set_option linter.unusedSimpArgs false
set_option linter.unusedVariables false

theorem one_int {w : World} {S : Nat → Prop} {g : Nat} {n : Int} (h : w.heap[g]? = some (.cells #[.int .i64 n] 3 (0, 0))) (hS : S g) : Owns w S (.slice (some ⟨g, 0, none⟩) 1 1) (intsD [n]) :=
  OwnsL.row (xs := [iV n]) hS h (Nat.le_refl _) (by unfold maxLen; omega) rfl rfl rfl (.one (.lit _ _))
theorem one_node {w : World} {S T : Nat → Prop} {g : Nat} {v : Value} {ns : NodeD} (h : w.heap[g]? = some (.cells #[v] 87 (0, 0))) (hS : S g) (ho : Owns w T v (setsD ns)) (hT : ∀ b, T b → S b ∧ b ≠ g) : Owns w S (.slice (some ⟨g, 0, none⟩) 1 1) (nodesD [ns]) :=
  OwnsL.row (xs := [v]) hS h (Nat.le_refl _) (by unfold maxLen; omega) rfl rfl rfl (.one (ho.mono hT))
theorem specTreeNew_any (w : World) : Calls Try.prog 20 #[] w (NewTS w [0] [[]]) := by
  go_enter Try.func20, Try.ntmps20
  go_wp2
  obtain ⟨q0, q1, q2⟩ := al3 w (.cells #[.slice (some ⟨w.heap.size + 1, 0, none⟩) 1 1, .slice (some ⟨w.heap.size + 1 + 1, 0, none⟩) 1 1] 25) (.cells #[.int .i64 0] 3) (.cells #[.slice none 0 0] 87)
  obtain ⟨x0, x1, x2⟩ := box2 q0
  refine bodyPost_ret (v := .agg #[.slice (some ⟨w.heap.size + 1, 0, none⟩) 1 1, .slice (some ⟨w.heap.size + 1 + 1, 0, none⟩) 1 1]) (by simp [results, Try.results20, go_sem, x0, x1]) rfl ⟨_, _, rfl, ⟨fun b => b = w.heap.size + 1, fun b => b = w.heap.size + 1 + 1, fun b hb => by omega, fun b hb => by omega, fun b hb hb' => by omega, one_int q1 rfl, one_node (T := fun _ => False) q2 rfl (.nil _ _ _) (fun _ h => h.elim)⟩, bal3 _ _ _ _⟩
set_option maxHeartbeats 1000000 in
theorem implTreeNew_any (w : World) : Calls Try.prog 22 #[] w (NewTS w [0] [[]]) := by
  have HN : Hid (∀ W, Calls Try.prog 53 #[.slice none 0 0] W (NewN W [])) := Lib.hid (fun W => implNodeNew_any (.slice none 0 0) [] W (.nil _ _ _ _ (by unfold maxLen; omega)) (by simp))
  obtain ⟨q0, q1⟩ := al2 w (.cells #[.slice none 0 0, .slice none 0 0] 25) (.cells #[.int .i64 0] 3)
  have HB := bal2 w (.cells #[.slice none 0 0, .slice none 0 0] 25) (.cells #[.int .i64 0] 3)
  have hz : ((w.alloc (.cells #[.slice none 0 0, .slice none 0 0] 25)).alloc (.cells #[.int .i64 0] 3)).heap.size = w.heap.size + 2 := by simp
  go_enter Try.func22, Try.ntmps22
  go_wp2_with fail
  refine (HN.out _).mono ?_
  generalize (w.alloc (.cells #[.slice none 0 0, .slice none 0 0] 25)).alloc (.cells #[.int .i64 0] 3) = W at *
  rintro r w2 ⟨v2, rfl, o2, b2⟩
  obtain ⟨A2, c2, rfl, _, _⟩ := o2.reads.lenN
  obtain ⟨x0, x1, x2⟩ := box2 (box_on q0 b2)
  have Q0 := Lib.hid (box_on q0 b2)
  have Q1 := Lib.hid (box_on q1 b2)
  have BB := Lib.hid (bstep HB b2)
  have hz2 := b2.size
  have hw1 : w.heap.size + 2 ≤ w2.heap.size := by omega
  have O2 := Lib.hid (o2.lt.mono (T := fun b => w.heap.size + 2 ≤ b ∧ b < w2.heap.size) (fun b hb => ⟨by omega, hb.2⟩))
  have n1 : ¬ w.heap.size = w2.heap.size := by omega
  have n2 : w.heap.size < w2.heap.size := by omega
  clear o2 b2 q0 q1 HB hz hz2
  change Hid (Owns w2 _ (.slice A2 0 c2) _) at O2
  simp only [List.length_nil] at *
  go_wp2
  have G0 := box_set (i := 1) (u := .slice (some ⟨w2.heap.size, 0, none⟩) 1 1) (box_set (i := 0) (u := .slice (some ⟨w.heap.size + 1, 0, none⟩) 1 1) Q0.out)
  have far : ∀ (k : Nat), k ≠ w.heap.size → ((w2.setCell ⟨w.heap.size, 0, none⟩ (.slice (some ⟨w.heap.size + 1, 0, none⟩) 1 1)).setCell ⟨w.heap.size, 1, none⟩ (.slice (some ⟨w2.heap.size, 0, none⟩) 1 1)).heap[k]? = w2.heap[k]? := fun k hk => (Below.heap_setCell _ _ _ _ (by simpa using hk)).trans (Below.heap_setCell _ _ _ _ (by simpa using hk))
  have G1 : ((w2.setCell ⟨w.heap.size, 0, none⟩ (.slice (some ⟨w.heap.size + 1, 0, none⟩) 1 1)).setCell ⟨w.heap.size, 1, none⟩ (.slice (some ⟨w2.heap.size, 0, none⟩) 1 1)).heap[w.heap.size + 1]? = some (.cells #[.int .i64 0] 3 (0, 0)) := (far _ (by omega)).trans Q1.out
  have GB : Below w.heap.size w ((w2.setCell ⟨w.heap.size, 0, none⟩ (.slice (some ⟨w.heap.size + 1, 0, none⟩) 1 1)).setCell ⟨w.heap.size, 1, none⟩ (.slice (some ⟨w2.heap.size, 0, none⟩) 1 1)) := (BB.out.setCell (p := ⟨w.heap.size, 0, none⟩) (Nat.le_refl _) _).setCell (p := ⟨w.heap.size, 1, none⟩) (Nat.le_refl _) _
  have GO := O2.out.keep (fun b hb _ => far b (by omega))
  have GZ : ((w2.setCell ⟨w.heap.size, 0, none⟩ (.slice (some ⟨w.heap.size + 1, 0, none⟩) 1 1)).setCell ⟨w.heap.size, 1, none⟩ (.slice (some ⟨w2.heap.size, 0, none⟩) 1 1)).heap.size = w2.heap.size := by simp
  generalize (w2.setCell ⟨w.heap.size, 0, none⟩ (.slice (some ⟨w.heap.size + 1, 0, none⟩) 1 1)).setCell ⟨w.heap.size, 1, none⟩ (.slice (some ⟨w2.heap.size, 0, none⟩) 1 1) = W3 at *
  have BA := bal1 W3 (.cells #[.slice A2 0 c2] 87)
  obtain ⟨y0, y1, y2⟩ := box2 (box_on G0 BA)
  have NA := al1 W3 (.cells #[.slice A2 0 c2] 87)
  rw [GZ] at NA
  refine bodyPost_ret (v := .agg #[.slice (some ⟨w.heap.size + 1, 0, none⟩) 1 1, .slice (some ⟨w2.heap.size, 0, none⟩) 1 1]) (by simp [results, Try.results22, go_sem, y0, y1]) rfl ⟨_, _, rfl, ⟨fun b => b = w.heap.size + 1, fun b => w.heap.size + 2 ≤ b, fun b hb => by omega, fun b hb => by omega, fun b hb hb' => by omega, one_int (box_on G1 BA) rfl, one_node NA (by omega) (GO.on BA) (fun b hb => ⟨hb.1, by omega⟩)⟩, GB.trans (BA.mono GB.size)⟩
end Go.Proofs.Ytmpgmjnagpiijaa
