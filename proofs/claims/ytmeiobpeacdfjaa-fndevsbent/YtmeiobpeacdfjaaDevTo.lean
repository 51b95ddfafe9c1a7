/- Contracts for copying a device out of the arguments: laws.toByteSS, toWr, toWrS, toDev return a value of new memory that reads alike. Conditions: no slice holds more than 2^20 elements. -/
import Derived.Test.YtmeiobpeacdfjaaDevD
import Derived.StillTailTactics
namespace Go.Proofs.Ytmeiobpeacdfjaa
open Go.RowKit
set_option maxRecDepth 100000
set_option linter.unusedSimpArgs false
set_option linter.unusedVariables false

theorem bs_info : (Try.prog.info? 22).map (fun i => (i.zero, i.size, i.bytes)) = some (some (.slice none 0 0), 1, 24) := by kernel_rfl
theorem wr_info : (Try.prog.info? 78).map (fun i => (i.zero, i.size, i.bytes)) = some (some (.agg #[.int .i64 0, .slice none 0 0]), 2, 32) := by kernel_rfl
theorem run_makeSecs (n : Nat) (hn : n ≤ 1048576) (w : World) :
    (Instr.makeSlice 24 (.int .i64 (n : Int)) (.int .i64 (n : Int))).run Try.prog w = .ok (.slice (some ⟨w.heap.size, 0, none⟩) n n) (w.alloc (.cells (madeCells #[.slice none 0 0] n) 22)) := by
  obtain ⟨i, hi, h0, h1, h2⟩ := info_parts bs_info
  have hr := run_make (P := Try.prog) w 24 22 i (.slice none 0 0) Try.underlying24 hi h0 .i64 .i64 n n (by omega) (by omega) (by rw [h2]; omega) (by omega)
  simp only [Int.toNat_natCast, h1, Nat.mul_one] at hr
  exact hr
theorem run_makeWrs (n : Nat) (hn : n ≤ 1048576) (w : World) :
    (Instr.makeSlice 25 (.int .i64 (n : Int)) (.int .i64 (n : Int))).run Try.prog w = .ok (.slice (some ⟨w.heap.size, 0, none⟩) n n) (w.alloc (.cells (madeCells #[.int .i64 0, .slice none 0 0] (n * 2)) 78)) := by
  obtain ⟨i, hi, h0, h1, h2⟩ := info_parts wr_info
  have hr := run_make (P := Try.prog) w 25 78 i (.agg #[.int .i64 0, .slice none 0 0]) Try.underlying25 hi h0 .i64 .i64 n n (by omega) (by omega) (by rw [h2]; omega) (by omega)
  simp only [Int.toNat_natCast, h1] at hr
  exact hr
theorem size_made1 (z : Value) (n : Nat) : (madeCells #[z] n).size = n * 1 := by simp [size_madeCells]
def NewV (w : World) (c : Dat) (e : Ending) (w' : World) : Prop := ∃ v, e = .returned v ∧ Owns w' (fun b => w.heap.size ≤ b) v c ∧ Below w.heap.size w w'
def NewWr (w : World) (n : Int) (l : List UInt8) (e : Ending) (w' : World) : Prop := ∃ v, e = .returned (.agg #[.int .i64 n, v]) ∧ Owns w' (fun b => w.heap.size ≤ b) v (bytesD l) ∧ Below w.heap.size w w'
def NewDev (w : World) (d : DevD) (e : Ending) (w' : World) : Prop := ∃ v, e = .returned v ∧ OwnDev w' (fun b => w.heap.size ≤ b) v d ∧ Below w.heap.size w w'
end Go.Proofs.Ytmeiobpeacdfjaa
