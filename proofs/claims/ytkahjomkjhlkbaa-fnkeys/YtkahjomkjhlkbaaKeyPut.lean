/- Contracts for impl.PutKey and spec.PutKey: both return a new slice, the given bytes and behind them encK of the key, for every argument. Conditions: slices of at most 2^40 bytes. -/
import Derived.Test.YtkahjomkjhlkbaaKeyLaw
import Derived.Test.YtkahjomkjhlkbaaPutW
import Derived.Deep.RegionHeld3
import Derived.Deep.DeepCutAuto
namespace Go.Proofs.Ytkahjomkjhlkbaa
open Go.RowKit
set_option maxRecDepth 100000

/-- The bytes of a key, if it is valid. -/
def encK (a b c d e : Int) : List UInt8 := if keyOkB a b c d e = true then [ub a, ub b, ub c, ub d] ++ encW e else []
theorem encK_le (a b c d e : Int) : (encK a b c d e).length ≤ 6 := by
  unfold encK
  split <;> simp [encW]
def NewBytes (w : World) (l : List UInt8) (r : Ending) (w' : World) : Prop := ∃ g v, r = .returned v ∧ Own w' g v l ∧ w.heap.size ≤ g ∧ Below w.heap.size w w'
theorem rd_four (w : World) (a b c d : Int) : Rd (w.alloc (.cells #[.int .u8 (a % 256), .int .u8 (b % 256), .int .u8 (c % 256), .int .u8 (d % 256)] 5)) (w.heap.size + 1) (some ⟨w.heap.size, 0, none⟩) [ub a, ub b, ub c, ub d] := by
  refine .inr ⟨_, 0, rfl, by omega, fun i hi => ?_⟩
  rw [cell_of_row _ _ _ _ _ _ (heap_alloc_new w _)]
  match i, hi with
  | 0, _ => simp [ub_toNat]
  | 1, _ => simp [ub_toNat]
  | 2, _ => simp [ub_toNat]
  | 3, _ => simp [ub_toNat]
theorem boxB {w w' : World} {p B : Nat} {o : Obj} (q : w.heap[p]? = some o) (hb : Below B w w') (hp : p < B) : w'.heap[p]? = some o := (hb.block p hp).trans q
/-- append onto a byte slice of the call's own, at a step of a region that draws its order. -/
theorem step_appB {ops : Array Oper} {o : Oper} {a : Act} {K : Act → World → Prop} {Q : Exit → Act → World → Prop} {E : Prop} (w : World) (hgd : o.guard = none) (s x : Operand)
    (hop : o.op = .call { callee := .builtin .append, args := #[s, x], argTypes := #[22, 22] })
    (g base : Nat) (v : Value) (l : List UInt8) (hs : a.eval s = v) (ho : Own w g v l) (hb : base ≤ g) (B : Nat) (A : Option Addr) (m : List UInt8) (n c : Nat) (hx : a.eval x = .slice A n c) (hmn : m.length = n) (hr : Rd w B A m) (hn : A = none → m = []) (hlen : l.length + m.length ≤ 2199023255552)
    (h : ∀ v' w' g', Own w' g' v' (l ++ m) → base ≤ g' → Below base w w' → K (a.put o.dst v') w') : if Region.wanted o (yielded ops a.tmps) = true then Oper.wp Try.prog o a w K Q else E := by
  subst hmn
  have hw : Region.wanted o (yielded ops a.tmps) = true := by simp [Region.wanted, hgd]
  rw [if_pos hw]
  obtain ⟨v', w', g', hrun, h2, h3, h4, _, _⟩ := run_appB w o.type g base v l ho hb B A m c hr hn hlen
  unfold Oper.wp execOp
  simp only [hop, resolve, invoke, builtin, Sem.run_bind, Sem.run_pure, Result.andThen_ok, List.map_toArray, List.map_cons, List.map_nil, hs, hx, hrun]
  exact h v' w' g' h2 h3 h4
/-- What the box of a key holds, cell by cell. -/
theorem key_held {W : World} {p : Nat} {a b c d e : Value} {t : TypeId} (hp : W.heap[p]? = some (.cells #[a, b, c, d, e] t (0, 0))) :
    W.cell? ⟨p, 0, none⟩ = some a ∧ W.cell? ⟨p, 1, none⟩ = some b ∧ W.cell? ⟨p, 2, none⟩ = some c ∧ W.cell? ⟨p, 3, none⟩ = some d ∧ W.cell? ⟨p, 4, none⟩ = some e := by
  obtain ⟨x0, x1, x2, x3, x4, _⟩ := box5 hp
  exact ⟨x0, x1, x2, x3, x4⟩

set_option maxHeartbeats 1000000 in
theorem implPutKey_any (A : Option Addr) (cap : Nat) (l : List UInt8) (a b c d e : Int) (w : World) (hr : Rd w w.heap.size A l) (hn : l.length ≤ 1099511627000) :
    Calls Try.prog 38 #[.slice A l.length cap, keyV a b c d e] w (NewBytes w (l ++ encK a b c d e)) := by
  have HE := Lib.hid (show encK a b c d e = if keyOkB a b c d e = true then [ub a, ub b, ub c, ub d] ++ encW e else [] from rfl)
  have HK := Lib.hid (implKeyOk_any a b c d e)
  generalize encK a b c d e = E at *
  generalize keyOkB a b c d e = T at *
  unfold keyV at HK ⊢
  have HB := Lib.hid (bal1 w (.cells #[.int .i64 a, .int .i64 b, .int .i64 c, .int .i64 d, .int .i64 e] 45))
  have HQ := Lib.hid (al1 w (.cells #[.int .i64 a, .int .i64 b, .int .i64 c, .int .i64 d, .int .i64 e] 45))
  have H := Lib.hid (putWords_any A none cap 0 l [] _ (hr.on HB.out) (.inl rfl) (by omega) (by simp))
  have hz : (w.alloc (.cells #[.int .i64 a, .int .i64 b, .int .i64 c, .int .i64 d, .int .i64 e] 45)).heap.size = w.heap.size + 1 := by simp
  have HZ := Lib.hid hz
  clear hz hr
  go_enter Try.func38, Try.ntmps38
  go_wp2_with fail
  refine H.out.mono ?_
  rintro r w1 ⟨g, v, rfl, ho, hg, hb⟩
  have q1 := box_on HQ.out hb
  rw [HZ.out] at hg
  have B1 := Lib.hid (bstep HB.out hb)
  obtain ⟨x0, x1, x2, x3, x4, x5⟩ := box5 q1
  have Q1 := Lib.hid q1
  rw [show l ++ encWs [] = l from List.append_nil l] at ho
  have O1 := Lib.hid ho
  clear q1 hb HB HQ H HZ ho
  go_wp2_with fail
  refine (HK.out _).mono ?_
  rintro r w2 ⟨rfl, b2⟩
  have q2 := box_on Q1.out b2
  have B2 := Lib.hid (bstep B1.out b2)
  have o2 := O1.out.on b2
  clear x0 x1 x2 x3 x4 x5 Q1 O1 B1 b2
  have Q2 := Lib.hid q2
  cases hT : T
  · have HE2 : Hid (E = []) := Lib.hid (by rw [HE.out, hT]; rfl)
    clear hT HE q2
    go_wp2
    go_ret
    exact ⟨g, v, rfl, by rw [HE2.out, List.append_nil]; exact o2, by omega, B2.out⟩
  · have HE2 : Hid (E = [ub a, ub b, ub c, ub d] ++ encW e) := Lib.hid (by rw [HE.out, hT]; rfl)
    clear hT HE
    obtain ⟨x0, x1, x2, x3, x4, x5⟩ := box5 q2
    have o3 := o2.alloc (.cells #[.int .u8 (a % 256), .int .u8 (b % 256), .int .u8 (c % 256), .int .u8 (d % 256)] 5)
    have r3 := rd_four w2 a b c d
    have B3 := Lib.hid (B2.out.alloc B2.out.size (.cells #[.int .u8 (a % 256), .int .u8 (b % 256), .int .u8 (c % 256), .int .u8 (d % 256)] 5))
    have Q3 := Lib.hid (box_on Q2.out (bal1 w2 (.cells #[.int .u8 (a % 256), .int .u8 (b % 256), .int .u8 (c % 256), .int .u8 (d % 256)] 5)))
    clear q2 o2
    go_wp2_with (first | (at_builtin; refine wpList_appB _ rfl (.tmp 12) (.tmp 25) rfl g (w.heap.size + 1) _ l rfl o3 hg _ _ [ub a, ub b, ub c, ub d] 4 4 rfl rfl r3 (fun h => by cases h) (by simp; omega) ?_; intro v4 w4 g4 o4 hg4 b4 _ _; clear o3 r3; have q4 := boxB Q3.out b4 (by omega); obtain ⟨y0, y1, y2, y3, y4, y5⟩ := box5 q4; clear x0 x1 x2 x3 x4 x5 q4) | fail)
    have B4 := Lib.hid (B3.out.trans (b4.mono (by omega)))
    obtain ⟨M, hM⟩ : ∃ M, M = l ++ [ub a, ub b, ub c, ub d] := ⟨_, rfl⟩
    rw [← hM] at o4
    have hMl : M.length ≤ 1099511627776 := by rw [hM]; simp; omega
    have HM := Lib.hid hM
    clear hM b4 B3
    obtain ⟨c4, rfl, _, _⟩ := o4.rd
    refine (implPutW_any _ _ M e _ o4.all hMl).mono ?_
    rintro r w5 ⟨g5, v5, rfl, o5, hg5, b5⟩
    have B5 := bstep B4.out b5
    have hz4 := B4.out.size
    clear y0 y1 y2 y3 y4 y5 b5
    go_wp2
    go_ret
    exact ⟨g5, v5, rfl, by rw [HE2.out, ← List.append_assoc, ← HM.out]; exact o5, by omega, B5⟩
set_option maxHeartbeats 1000000 in
theorem specPutKey_any (A : Option Addr) (cap : Nat) (l : List UInt8) (a b c d e : Int) (w : World) (hr : Rd w w.heap.size A l) (hn : l.length ≤ 1099511627000) :
    Calls Try.prog 59 #[.slice A l.length cap, keyV a b c d e] w (NewBytes w (l ++ encK a b c d e)) := by
  have HE := Lib.hid (show encK a b c d e = if keyOkB a b c d e = true then [ub a, ub b, ub c, ub d] ++ encW e else [] from rfl)
  have HK := Lib.hid (specKeyOk_any a b c d e)
  generalize encK a b c d e = E at *
  generalize keyOkB a b c d e = T at *
  unfold keyV at HK ⊢
  have hnil : A = none → l = [] := hr.nil_of
  have HB := Lib.hid (bal1 w (.cells #[.int .i64 a, .int .i64 b, .int .i64 c, .int .i64 d, .int .i64 e] 45))
  have HQ := Lib.hid (al1 w (.cells #[.int .i64 a, .int .i64 b, .int .i64 c, .int .i64 d, .int .i64 e] 45))
  have HR := Lib.hid (hr.on HB.out)
  have hz : (w.alloc (.cells #[.int .i64 a, .int .i64 b, .int .i64 c, .int .i64 d, .int .i64 e] 45)).heap.size = w.heap.size + 1 := by simp
  have HZ := Lib.hid hz
  clear hz hr
  go_enter Try.func59, Try.ntmps59
  go_upto_region 1 with (fail)
  generalize w.alloc (.cells #[.int .i64 a, .int .i64 b, .int .i64 c, .int .i64 d, .int .i64 e] 45) = W at *
  have r0 := HR.out.on (bal1 W (.cells #[] 5))
  have o0 := Own.lit W
  have BL := Lib.hid (bal1 W (.cells #[] 5))
  go_wp2_with (first | (at_builtin; refine wpList_appB _ rfl (.tmp 6) (.tmp 7) rfl W.heap.size W.heap.size _ [] rfl o0 (Nat.le_refl _) _ A l l.length cap rfl rfl r0 hnil (by simp; omega) ?_; intro v1 w1 g o1 hg b1 _ _; clear o0 r0 hnil; have BW := Lib.hid (BL.out.trans b1); have q1 := box_on HQ.out BW.out; obtain ⟨x0, x1, x2, x3, x4, x5⟩ := box5 q1) | fail)
  rw [List.nil_append] at o1
  have B1 := Lib.hid (bstep HB.out BW.out)
  have hzw := HZ.out
  have hgw : w.heap.size + 1 ≤ g := by omega
  have Q1 := Lib.hid q1
  have O1 := Lib.hid o1
  clear q1 o1 b1 BL HB HQ HR HZ BW hzw hg
  refine (HK.out _).mono ?_
  rintro r w2 ⟨rfl, b2⟩
  have q2 := box_on Q1.out b2
  have B2 := Lib.hid (bstep B1.out b2)
  have o2 := O1.out.on b2
  clear x0 x1 x2 x3 x4 x5 Q1 O1 B1 b2
  have Q2 := Lib.hid q2
  cases hT : T
  · have HE2 : Hid (E = []) := Lib.hid (by rw [HE.out, hT]; rfl)
    clear hT HE q2
    go_wp2
    go_ret
    exact ⟨g, v1, rfl, by rw [HE2.out, List.append_nil]; exact o2, by omega, B2.out⟩
  · have HE2 : Hid (E = [ub a, ub b, ub c, ub d] ++ encW e) := Lib.hid (by rw [HE.out, hT]; rfl)
    clear hT HE
    obtain ⟨x0, x1, x2, x3, x4, x5⟩ := box5 q2
    have O3 := Lib.hid (show Own (w2.alloc (.cells #[.int .u8 (a % 256), .int .u8 (b % 256), .int .u8 (c % 256), .int .u8 (d % 256)] 5)).drew g v1 l from (o2.alloc _).drewN 1)
    have R3 := Lib.hid (show Rd (w2.alloc (.cells #[.int .u8 (a % 256), .int .u8 (b % 256), .int .u8 (c % 256), .int .u8 (d % 256)] 5)).drew (w2.heap.size + 1) (some ⟨w2.heap.size, 0, none⟩) [ub a, ub b, ub c, ub d] from (rd_four w2 a b c d).drewN 1)
    have BA : Hid (Below w2.heap.size w2 (w2.alloc (.cells #[.int .u8 (a % 256), .int .u8 (b % 256), .int .u8 (c % 256), .int .u8 (d % 256)] 5)).drew) := Lib.hid ((bal1 w2 (.cells #[.int .u8 (a % 256), .int .u8 (b % 256), .int .u8 (c % 256), .int .u8 (d % 256)] 5)).drew)
    have B3 := Lib.hid (bstep B2.out BA.out)
    have Q3 := Lib.hid (box_on Q2.out BA.out)
    have hlen : l.length + [ub a, ub b, ub c, ub d].length ≤ 2199023255552 := by simp; omega
    have HL := Lib.hid hlen
    have hMl0 : (l ++ [ub a, ub b, ub c, ub d]).length ≤ 1099511627776 := by simp; omega
    have HML := Lib.hid hMl0
    clear q2 o2 hlen hMl0
    have p0 : IntKind.u8.wrap a = a % 256 := IntKind.wrap_u8 _
    have p1 : IntKind.u8.wrap b = b % 256 := IntKind.wrap_u8 _
    have p2 : IntKind.u8.wrap c = c % 256 := IntKind.wrap_u8 _
    have p3 : IntKind.u8.wrap d = d % 256 := IntKind.wrap_u8 _
    go_wp2
    go_region_held3 (fun V => V.cell? ⟨w.heap.size, 0, none⟩ = some (.int .i64 a) ∧ V.cell? ⟨w.heap.size, 1, none⟩ = some (.int .i64 b) ∧ V.cell? ⟨w.heap.size, 2, none⟩ = some (.int .i64 c) ∧ V.cell? ⟨w.heap.size, 3, none⟩ = some (.int .i64 d) ∧ V.cell? ⟨w.heap.size, 4, none⟩ = some (.int .i64 e))
      (first | with_reducible exact key_held Q5.out | with_reducible exact key_held Q4.out | with_reducible exact key_held Q3.out | exact ⟨x0, x1, x2, x3, x4⟩)
      (first
        | (refine step_appB _ (by rfl) (.tmp 13) (.tmp 26) (by rfl) g (w.heap.size + 1) _ l (by rfl) O3.out hgw _ _ [ub a, ub b, ub c, ub d] 4 4 (by rfl) rfl R3.out (fun h => by cases h) HL.out ?_; intro v4 w4 g4 o4 hg4 b4; have Q4 := Lib.hid (boxB Q3.out b4 (Nat.lt_succ_self _)); have B4 := Lib.hid (B3.out.trans (b4.mono (Nat.le_succ _))); obtain ⟨M, hM⟩ : ∃ M, M = l ++ [ub a, ub b, ub c, ub d] := ⟨_, rfl⟩; rw [← hM] at o4; have hMl : M.length ≤ 1099511627776 := hM ▸ HML.out; have HM := Lib.hid hM; clear hM; obtain ⟨c4, rfl, _, _⟩ := o4.rd)
        | (go_at_call 100; refine (specPutW_any _ _ M e _ o4.all hMl).mono ?_; rintro r w5 ⟨g5, v5, rfl, o5, hg5, b5⟩; have Q5 := Lib.hid (box_on Q4.out b5); have B5 := Lib.hid (bstep B4.out b5)))
    have hz4 := B4.out.size
    clear x0 x1 x2 x3 x4 x5 p0 p1 p2 p3
    go_wp2
    go_ret
    exact ⟨g5, v5, rfl, by rw [HE2.out, ← List.append_assoc, ← HM.out]; exact o5, by omega, B5.out⟩
end Go.Proofs.Ytkahjomkjhlkbaa
