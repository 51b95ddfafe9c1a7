/- Contracts for encoding: impl.putWords, impl.PutW, spec.PutW, impl.PutText and spec.PutText return a new slice with the bytes that encW and encText below say, for every argument. Conditions: the slice holds at most 2^40 bytes, putWords gets at most 2^20 words. -/
import Derived.Test.YtkahjomkjhlkbaaAppend
namespace Go.Proofs.Ytkahjomkjhlkbaa
open Go.RowKit

theorem Rd.nil_of {w : World} {B : Nat} {A : Option Addr} {l : List UInt8} (h : Rd w B A l) (hA : A = none) : l = [] := by
  rcases h with h | ⟨b, off, h, _⟩
  · exact h
  · rw [hA] at h; cases h
/-- In w, from the address A on, lie the ints ws. -/
def RdI (w : World) (B : Nat) (A : Option Addr) (ws : List Int) : Prop :=
  ws = [] ∨ ∃ b off, A = some ⟨b, off, none⟩ ∧ b < B ∧ ∀ i (h : i < ws.length), w.cell? ⟨b, off + i, none⟩ = some (.int .i64 ws[i])
theorem RdI.at_ {w : World} {B : Nat} {A : Option Addr} {l : List Int} (h : RdI w B A l) {k : Nat} (hk : k < l.length) :
    ∃ b off, A = some ⟨b, off, none⟩ ∧ b < B ∧ ∀ i (h : i < l.length), w.cell? ⟨b, off + i, none⟩ = some (.int .i64 l[i]) := by
  rcases h with rfl | h
  · simp at hk
  · exact h
/-- The two bytes of an int's low 16 bits. -/
def encW (n : Int) : List UInt8 := [ub (n / 256), ub n]
def encWs (ws : List Int) : List UInt8 := ws.flatMap encW
theorem encWs_length (ws : List Int) : (encWs ws).length = 2 * ws.length := by
  induction ws with
  | nil => rfl
  | cons n ws ih => simp [encWs, encW] at ih ⊢; omega
theorem encWs_succ (ws : List Int) (k : Nat) (h : k < ws.length) : encWs (ws.take (k + 1)) = encWs (ws.take k) ++ encW ws[k] := by
  rw [List.take_succ_eq_append_getElem h, encWs, List.flatMap_append]; simp [encWs]
theorem run_makeBytes0 (n : Nat) (hn : n ≤ 2199023255552) (w : World) :
    (Instr.makeSlice 22 (.int .i64 0) (.int .i64 (n : Int))).run Try.prog w = .ok (.slice (some ⟨w.heap.size, 0, none⟩) 0 n) (w.alloc (.cells (madeCells #[.int .u8 0] n) 5)) := by
  obtain ⟨i, hi, h0, h1, h2⟩ := info_parts u8_info
  have hr := run_make (P := Try.prog) w 22 5 i (.int .u8 0) Try.underlying22 hi h0 .i64 .i64 0 n (by omega) (by omega) (by rw [h2]; omega) (by omega)
  simp only [Int.toNat_natCast, h1, Nat.mul_one] at hr
  exact hr
theorem Own.made (w : World) (n : Nat) (hn : n ≤ 2199023255552) : Own (w.alloc (.cells (madeCells #[.int .u8 0] n) 5)) w.heap.size (.slice (some ⟨w.heap.size, 0, none⟩) 0 n) [] :=
  ⟨n, _, rfl, heap_alloc_new w _, Nat.zero_le _, by unfold maxLen; omega, size_madeCells _ _, rfl⟩
theorem Own.lit (w : World) : Own (w.alloc (.cells #[] 5)) w.heap.size (.slice (some ⟨w.heap.size, 0, none⟩) 0 0) [] :=
  ⟨0, _, rfl, heap_alloc_new w _, Nat.zero_le _, by unfold maxLen; omega, rfl, rfl⟩
theorem rd_two (w : World) (n : Int) : Rd (w.alloc (.cells #[.int .u8 (n / 256 % 256), .int .u8 (n % 256)] 5)) (w.heap.size + 1) (some ⟨w.heap.size, 0, none⟩) (encW n) := by
  refine .inr ⟨_, 0, rfl, by omega, fun i hi => ?_⟩
  rw [cell_of_row _ _ _ _ _ _ (heap_alloc_new w _)]
  match i, hi with
  | 0, _ => simp [encW, ub_toNat]
  | 1, _ => simp [encW, ub_toNat]
theorem Own.alloc {w : World} {g : Nat} {v : Value} {l : List UInt8} (h : Own w g v l) (o : Obj) : Own (w.alloc o) g v l := h.on ((Below.refl _ _).alloc (Nat.le_refl _) _)

theorem putWords_any (A C : Option Addr) (cap cap2 : Nat) (l : List UInt8) (ws : List Int) (w : World) (hr : Rd w w.heap.size A l) (hi : RdI w w.heap.size C ws) (hn : l.length ≤ 1099511627776) (hw : ws.length ≤ 1048576) :
    Calls Try.prog 81 #[.slice A l.length cap, .slice C ws.length cap2] w fun e w' => ∃ g v, e = .returned v ∧ Own w' g v (l ++ encWs ws) ∧ w.heap.size ≤ g ∧ Below w.heap.size w w' := by
  have hmk := run_makeBytes0 (l.length + 2 * ws.length) (by omega)
  rw [show ((l.length + 2 * ws.length : Nat) : Int) = (l.length : Int) + 2 * (ws.length : Int) by omega] at hmk
  go_enter Try.func81, Try.ntmps81
  have hr0 : Rd (w.alloc (.cells (madeCells #[.int .u8 0] (l.length + 2 * ws.length)) 5)) w.heap.size A l := hr.below ((Below.refl _ _).alloc (Nat.le_refl _) _)
  have ho0 := Own.made w (l.length + 2 * ws.length) (by omega)
  have hnil : A = none → l = [] := hr.nil_of
  have HB0 := Lib.hid ((Below.refl w.heap.size w).alloc (Nat.le_refl _) (.cells (madeCells #[.int .u8 0] (l.length + 2 * ws.length)) 5))
  go_wp2_with (at_builtin; refine wpList_appB _ rfl (.tmp 15) (.tmp 16) rfl w.heap.size w.heap.size _ [] rfl ho0 (Nat.le_refl _) w.heap.size A l l.length cap rfl rfl hr0 hnil (by simp; omega) ?_; intro v1 w1 g1 o1 hg1 b1 _ _; clear ho0 hr0 hnil)
  have b2 := HB0.out.trans b1
  rw [List.nil_append] at o1
  clear b1 HB0 hmk
  go_loopw [5, 20] (fun v i wr => ∃ (k g : Nat), k ≤ ws.length ∧ i = .int .i64 k ∧ Own wr g v (l ++ encWs (ws.take k)) ∧ w.heap.size ≤ g ∧ Below w.heap.size w wr) (fun _ i _ => ws.length - (intOf i).toNat)
  case atStart => exact ⟨0, g1, Nat.zero_le _, rfl, by simpa [encWs] using o1, hg1, b2⟩
  case round =>
    obtain ⟨k, g, hk, rfl, ho, hg, hb⟩ := hrel
    by_cases hlt : k < ws.length
    · obtain ⟨b, off, rfl, hbb, hc⟩ := hi.at_ hlt
      have c1 : wr.cell? ⟨b, off + k, none⟩ = some (.int .i64 ws[k]) := (hb.cell (p := ⟨b, off + k, none⟩) hbb).trans (hc k hlt)
      clear hc hi o1 b2
      have HS := Lib.hid (encWs_succ ws k hlt)
      have hle := encWs_length (ws.take k)
      have hle2 : (encWs (ws.take k)).length ≤ 2097152 := by rw [hle]; simp; omega
      clear hle
      have ho1 := ho.alloc (.cells #[.int .u8 (ws[k] / 256 % 256), .int .u8 (ws[k] % 256)] 5)
      have hr1 := rd_two wr ws[k]
      have HB := Lib.hid (hb.alloc hb.size (.cells #[.int .u8 (ws[k] / 256 % 256), .int .u8 (ws[k] % 256)] 5))
      clear ho
      go_wp2_with (at_builtin; refine wpList_appB _ rfl (.tmp 24) (.tmp 30) rfl g w.heap.size _ (l ++ encWs (ws.take k)) rfl ho1 hg _ _ (encW ws[k]) 2 2 rfl rfl hr1 (fun h => by cases h) (by simp [encW]; omega) ?_; intro v2 w2 g2 o2 hg2 b2 _ _; clear ho1 hr1)
      have b3 := HB.out.trans b2
      clear b2
      go_roundw
      case rel => exact ⟨k + 1, g2, by omega, by go_num, by rw [HS.out, ← List.append_assoc]; exact o2, hg2, b3⟩
      case measure => simp [intOf]; omega
    · go_wp2
      go_ret
      rw [List.take_of_length_le (by omega)] at ho
      exact ⟨g, _, rfl, ho, hg, hb⟩

theorem rdi_one (w : World) (n : Int) : RdI (w.alloc (.cells #[.int .i64 n] 3)) (w.heap.size + 1) (some ⟨w.heap.size, 0, none⟩) [n] := by
  refine .inr ⟨_, 0, rfl, by omega, fun i hi => ?_⟩
  rw [cell_of_row _ _ _ _ _ _ (heap_alloc_new w _)]
  match i, hi with
  | 0, _ => rfl
theorem encWs_one (n : Int) : encWs [n] = encW n := by simp [encWs]
theorem implPutW_any (A : Option Addr) (cap : Nat) (l : List UInt8) (n : Int) (w : World) (hr : Rd w w.heap.size A l) (hn : l.length ≤ 1099511627776) :
    Calls Try.prog 82 #[.slice A l.length cap, .int .i64 n] w fun e w' => ∃ g v, e = .returned v ∧ Own w' g v (l ++ encW n) ∧ w.heap.size ≤ g ∧ Below w.heap.size w w' := by
  have hb := (Below.refl w.heap.size w).alloc (Nat.le_refl _) (.cells #[.int .i64 n] 3)
  have H := Lib.hid (putWords_any A (some ⟨w.heap.size, 0, none⟩) cap 1 l [n] (w.alloc (.cells #[.int .i64 n] 3)) (hr.on hb) (by simpa using rdi_one w n) hn (by simp))
  have HB := Lib.hid hb
  clear hb hr
  go_enter Try.func82, Try.ntmps82
  go_wp2_with fail
  refine H.out.mono ?_
  rintro e w1 ⟨g, v, rfl, ho, hg, hb⟩
  have hb2 := bstep HB.out hb
  rw [encWs_one] at ho
  clear hb
  simp only [World.size_alloc] at hg
  go_wp2
  go_ret
  exact ⟨g, v, rfl, ho, by omega, hb2⟩
theorem specPutW_any (A : Option Addr) (cap : Nat) (l : List UInt8) (n : Int) (w : World) (hr : Rd w w.heap.size A l) (hn : l.length ≤ 1099511627776) :
    Calls Try.prog 100 #[.slice A l.length cap, .int .i64 n] w fun e w' => ∃ g v, e = .returned v ∧ Own w' g v (l ++ encW n) ∧ w.heap.size ≤ g ∧ Below w.heap.size w w' := by
  have hb := (Below.refl w.heap.size w).alloc (Nat.le_refl _) (.cells #[] 5)
  have hr0 := hr.on hb
  have hnil : A = none → l = [] := hr.nil_of
  have ho0 := Own.lit w
  have HB := Lib.hid hb
  clear hb hr
  go_enter Try.func100, Try.ntmps100
  go_wp2_with (first | (at_builtin; refine wpList_appB _ rfl (.tmp 6) (.tmp 7) rfl w.heap.size w.heap.size _ [] rfl ho0 (Nat.le_refl _) _ A l l.length cap rfl rfl hr0 hnil (by simp; omega) ?_; intro v1 w1 g1 o1 hg1 b1 _ _; clear ho0 hr0 hnil; have b2 := HB.out.trans b1; rw [List.nil_append] at o1; clear b1 HB; have o2 := o1.alloc (.cells #[.int .u8 (n / 256 % 256), .int .u8 (n % 256)] 5); have r2 := rd_two w1 n; have HB2 := Lib.hid (b2.alloc b2.size (.cells #[.int .u8 (n / 256 % 256), .int .u8 (n % 256)] 5))) | (at_builtin; refine wpList_appB _ rfl (.tmp 9) (.tmp 15) rfl g1 w.heap.size _ l rfl o2 hg1 _ _ (encW n) 2 2 rfl rfl r2 (fun h => by cases h) (by simp [encW]; omega) ?_; intro v3 w3 g3 o3 hg3 b3 _ _; clear o2 r2; have b4 := HB2.out.trans b3; clear b3))
  go_ret
  exact ⟨g3, v3, rfl, o3, hg3, b4⟩

def encText (s : ByteArray) : List UInt8 := if s.size ≤ 60 then encW s.size ++ s.data.toList else []
theorem encText_le (s : ByteArray) : (encText s).length ≤ 62 := by
  unfold encText; split
  · simp [encW]; omega
  · simp
end Go.Proofs.Ytkahjomkjhlkbaa
