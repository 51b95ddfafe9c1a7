/- The walk of FnDevs: at every code the call returns true and writes nothing that was there. No condition. -/
import Derived.Test.YtkahjomkjhlkbaaDevsA
import Derived.Test.YtkahjomkjhlkbaaLast3
import Derived.Deep.RegionHeld3
import Derived.Deep.DeepCutAuto
import Derived.IntWalk
namespace Go.Proofs.Ytkahjomkjhlkbaa
open Go.RowKit
set_option maxRecDepth 100000

theorem rd_two' (w : World) (m n : Int) : Rd (w.alloc (.cells #[.int .u8 (m % 256), .int .u8 (n % 256)] 5)) (w.heap.size + 1) (some ⟨w.heap.size, 0, none⟩) [ub m, ub n] := by
  refine .inr ⟨_, 0, rfl, by omega, fun i hi => ?_⟩
  rw [cell_of_row _ _ _ _ _ _ (heap_alloc_new w _)]
  match i, hi with
  | 0, _ => simp [ub_toNat]
  | 1, _ => simp [ub_toNat]
theorem RdDev.parts2 {w : World} {B : Nat} {v0 v1 : Value} {d : DevD} {f : Int} {b : Bool} (h : RdDev w B (.agg #[v0, v1, .int .i64 f, .bool b]) d) : Reads w B v0 (secsD d.secs) ∧ Reads w B v1 (cacheD d.cache) := by
  obtain ⟨u0, u1, he, h0, h1⟩ := h
  simp at he
  obtain ⟨rfl, rfl, _, _⟩ := he
  exact ⟨h0, h1⟩
theorem conv_reads {w : World} {A : Option Addr} {c : Nat} {l : List UInt8} (h : Reads w w.heap.size (.slice A l.length c) (bytesD l)) : (convert 22 9 (.slice A l.length c)).run Try.prog w = .ok (.string ⟨l.toArray⟩) w := by
  obtain ⟨A', c', e, h1, _, h2⟩ := h.bytes
  simp at e
  obtain ⟨rfl, rfl⟩ := e
  exact conv_rd h2 h1
theorem devs_held {W0 V : World} {q px pf bf o : Nat} {a0 a1 a2 a3 b0 b1 b2 b3 d0 d1 d2 d3 u : Value} {t : TypeId} (hq : W0.heap[q]? = some (.cells #[a0, a1, a2, a3] t (0, 0))) (hx : W0.heap[px]? = some (.cells #[b0, b1, b2, b3] t (0, 0))) (hf : W0.heap[pf]? = some (.cells #[d0, d1, d2, d3] t (0, 0))) (hy : W0.cell? ⟨bf, o, none⟩ = some u) (hb : Below W0.heap.size W0 V) :
    Below W0.heap.size W0 V ∧ V.cell? ⟨q, 0, none⟩ = some a0 ∧ V.cell? ⟨q, 1, none⟩ = some a1 ∧ V.cell? ⟨q, 2, none⟩ = some a2 ∧ V.cell? ⟨q, 3, none⟩ = some a3 ∧ V.cell? ⟨px, 0, none⟩ = some b0 ∧ V.cell? ⟨px, 1, none⟩ = some b1 ∧ V.cell? ⟨px, 2, none⟩ = some b2 ∧ V.cell? ⟨px, 3, none⟩ = some b3 ∧ V.cell? ⟨pf, 0, none⟩ = some d0 ∧ V.cell? ⟨pf, 1, none⟩ = some d1 ∧ V.cell? ⟨pf, 2, none⟩ = some d2 ∧ V.cell? ⟨pf, 3, none⟩ = some d3 ∧ V.cell? ⟨bf, o, none⟩ = some u := by
  obtain ⟨x0, x1, x2, x3, _⟩ := box4 (box_on hq hb)
  obtain ⟨y0, y1, y2, y3, _⟩ := box4 (box_on hx hb)
  obtain ⟨z0, z1, z2, z3, _⟩ := box4 (box_on hf hb)
  exact ⟨hb, x0, x1, x2, x3, y0, y1, y2, y3, z0, z1, z2, z3, (hb.cell (p := ⟨bf, o, none⟩) (World.block_lt_of_cell? W0 _ hy)).trans hy⟩
/-- What a ReadSec leaves: bytes of its own that read as L from here on, whatever is made behind them. -/
def RdOut (W0 : World) (L : List UInt8) (V : World) (r : Ending) (V' : World) : Prop := ∃ A c, r = .returned (.slice A L.length c) ∧ Below W0.heap.size W0 V' ∧ Below V.heap.size V V' ∧ ∀ U, Below V'.heap.size V' U → (convert 22 9 (.slice A L.length c)).run Try.prog U = .ok (.string ⟨L.toArray⟩) U
theorem readOut {W0 V : World} {L : List UInt8} {args : Array Value} {f : FuncId} (hV : Below W0.heap.size W0 V) (h : Calls Try.prog f args V (NewB V L)) : Calls Try.prog f args V (RdOut W0 L V) := by
  refine h.mono ?_
  rintro r V' ⟨u, rfl, o, b⟩
  obtain ⟨A, c, rfl⟩ := o.isSlice
  exact ⟨A, c, rfl, bstep hV b, b, fun U hU => conv_reads (o.on hU).reads⟩
set_option maxHeartbeats 20000000 in
theorem devs_walk (a0 : Option Addr) (len0 cap0 : Nat) (z0 : List Int) (w : World) (w0 : CameIn .u8 w a0 len0 cap0 z0) :
    Calls Try.prog 3 #[.slice a0 len0 cap0] w fun e w' => e = .returned (.bool true) ∧ Below w.heap.size w w' := by
  obtain ⟨l, rfl, hr⟩ := w0.rd
  clear w0
  by_cases hbig : l.length ≤ 1048576
  · have d0 : decide ((1048576 : Int) < (l.length : Int)) = false := decide_eq_false (by omega)
    go_enter Try.func3, Try.ntmps3
    go_wp2_with fail
    refine (big_any _ _ _ _).mono ?_
    rintro e w1 ⟨rfl, rfl⟩
    rw [d0]
    go_wp2_with fail
    refine (drawDev_any _ _ l _ hr hbig).mono ?_
    rintro e w1 ⟨v, D, rfl, o1, hD, b1⟩
    obtain ⟨A0, c0, A1, c1, rfl⟩ := o1.rd.shape
    have hb1 := bstep b1 (bal1 w1 (.cells #[.slice A0 D.secs.length c0, .slice A1 D.cache.length c1, .int .i64 D.fuse, .bool D.down] 27))
    have q1 := al1 w1 (.cells #[.slice A0 D.secs.length c0, .slice A1 D.cache.length c1, .int .i64 D.fuse, .bool D.down] 27)
    have R1 := Lib.hid (o1.rd.on (bal1 w1 (.cells #[.slice A0 D.secs.length c0, .slice A1 D.cache.length c1, .int .i64 D.fuse, .bool D.down] 27)))
    have hsm := Lib.hid (drawn_small (m := 7) hD.1)
    have HD := Lib.hid hD
    have sl : D.secs.length ≤ 7 := hD.2.2.2.2.1
    have sl2 : 2 ≤ D.secs.length := hD.2.2.2.1
    clear b1 o1 hD
    go_upto_region 4 with fail
    generalize w1.alloc (.cells #[.slice A0 D.secs.length c0, .slice A1 D.cache.length c1, .int .i64 D.fuse, .bool D.down] 27) = w2 at *
    generalize w1.heap.size = q at *
    obtain ⟨x0, x1, x2, x3, x4⟩ := box4 q1
    have hqz : q < w2.heap.size := (Array.getElem?_eq_some_iff.1 q1).1
    have Q1 := Lib.hid q1
    have HR := Lib.hid hr
    have HB1 := Lib.hid hb1
    clear q1 hr hb1
    obtain ⟨a2, hk2⟩ : ∃ a2, a2 = atOf l 2 := ⟨_, rfl⟩
    obtain ⟨a3, hk3⟩ : ∃ a3, a3 = atOf l 3 := ⟨_, rfl⟩
    obtain ⟨a4, hk4⟩ : ∃ a4, a4 = atOf l 4 := ⟨_, rfl⟩
    have HA2 : Hid (∀ w', Below w.heap.size w w' → Calls Try.prog 17 #[.slice a0 l.length cap0, .int .i64 2] w' fun e w'' => e = .returned (.int .i64 (a2 : Nat)) ∧ w'' = w') := Lib.hid (fun w' hb => hk2 ▸ at_val a0 cap0 l 2 w' (HR.out.on hb) hbig (by omega))
    have HA3 : Hid (∀ w', Below w.heap.size w w' → Calls Try.prog 17 #[.slice a0 l.length cap0, .int .i64 3] w' fun e w'' => e = .returned (.int .i64 (a3 : Nat)) ∧ w'' = w') := Lib.hid (fun w' hb => hk3 ▸ at_val a0 cap0 l 3 w' (HR.out.on hb) hbig (by omega))
    have HA4 : Hid (∀ w', Below w.heap.size w w' → Calls Try.prog 17 #[.slice a0 l.length cap0, .int .i64 4] w' fun e w'' => e = .returned (.int .i64 (a4 : Nat)) ∧ w'' = w') := Lib.hid (fun w' hb => hk4 ▸ at_val a0 cap0 l 4 w' (HR.out.on hb) hbig (by omega))
    clear hk2 hk3 hk4
    obtain ⟨n, hn⟩ : ∃ n, n = a2 % D.secs.length := ⟨_, rfl⟩
    have hnl : n < D.secs.length := by rw [hn]; exact Nat.mod_lt _ (by omega)
    have t1 : ((a2 : Nat) : Int).tmod (D.secs.length : Int) = (n : Int) := by rw [hn]; rfl
    have t2 : ((D.secs.length : Int) == 0) = false := beq_eq_false_iff_ne.2 (by omega)
    have t4 : ¬ ((D.secs.length : Int) = 0) := by omega
    have t5 : ¬ (D.secs = []) := by intro h; rw [h] at sl2; simp at sl2
    have t3 : IntKind.i64.wrap (n : Int) = (n : Int) := IntWalk.i64_in _ (by omega)
    clear hn
    go_region_held3 (fun W => W.cell? ⟨q, 0, none⟩ = some (.slice A0 D.secs.length c0)) (first | with_reducible exact x0 | go_keep | fail)
      (first
        | (go_at_call 17; (with_reducible refine (HA2.out _ (HB1.out.drew)).mono ?_); rintro e _ ⟨rfl, rfl⟩)
        | fail)
    have hd3 : Below w2.heap.size w2 w2.drew := (Below.refl _ _).drew
    have Q3 := Lib.hid (box_on Q1.out hd3)
    have R3 := Lib.hid (R1.out.on hd3)
    have HB3 := Lib.hid (bstep HB1.out hd3)
    have hq3 : q < w2.drew.heap.size := hqz
    clear hd3 Q1 R1 HB1 x0 x1 x2 x3 x4 t1 t2 t3 t4 t5
    generalize w2.drew = w3 at *
    go_wp2_with fail
    refine (HA3.out _ HB3.out).mono ?_
    rintro e wq ⟨rfl, hwq⟩
    rw [hwq]
    clear hwq wq
    go_wp2_with fail
    refine (HA4.out _ HB3.out).mono ?_
    rintro e wq ⟨rfl, hwq⟩
    rw [hwq]
    clear hwq wq
    obtain ⟨x0, x1, x2, x3, x4⟩ := box4 Q3.out
    have bA := bal1 w3 (.cells #[.int .u8 ((a3 : Int) % 256), .int .u8 ((a4 : Int) % 256)] 5)
    have Q4 := Lib.hid (box_on Q3.out bA)
    have R4 := Lib.hid (R3.out.on bA)
    have HB4 := Lib.hid (bstep HB3.out bA)
    have RB4 := Lib.hid ((rd_two' w3 a3 a4).mono (B' := (w3.alloc (.cells #[.int .u8 ((a3 : Int) % 256), .int .u8 ((a4 : Int) % 256)] 5)).heap.size) (by simp))
    have hz4 : (w3.alloc (.cells #[.int .u8 ((a3 : Int) % 256), .int .u8 ((a4 : Int) % 256)] 5)).heap.size = w3.heap.size + 1 := by simp
    have HZ4 := Lib.hid hz4
    clear bA hz4 Q3 R3 HB3 HA2 HA3 HA4
    obtain ⟨bb, hbb⟩ : ∃ bb, bb = [ub a3, ub a4] := ⟨_, rfl⟩
    have hb2 : bb.length = 2 := by rw [hbb]; rfl
    obtain ⟨fs, hfs⟩ := devs_of HD.out hnl (b := bb) (by omega)
    have RBB := Lib.hid (show Reads (w3.alloc (.cells #[.int .u8 ((a3 : Int) % 256), .int .u8 ((a4 : Int) % 256)] 5)) (w3.alloc (.cells #[.int .u8 ((a3 : Int) % 256), .int .u8 ((a4 : Int) % 256)] 5)).heap.size (.slice (some ⟨w3.heap.size, 0, none⟩) 2 2) (bytesD bb) by
      have h := (hbb ▸ RB4.out : Rd _ _ _ bb).bytes (cap := 2) (by omega) (by unfold maxLen; omega)
      rw [hb2] at h
      exact h)
    have RBC := Lib.hid (show Rd (w3.alloc (.cells #[.int .u8 ((a3 : Int) % 256), .int .u8 ((a4 : Int) % 256)] 5)) (w3.alloc (.cells #[.int .u8 ((a3 : Int) % 256), .int .u8 ((a4 : Int) % 256)] 5)).heap.size (some ⟨w3.heap.size, 0, none⟩) bb by rw [hbb]; exact RB4.out)
    clear hbb RB4
    go_wp2_with fail
    obtain ⟨cs, hcs⟩ : ∃ cs, cs = D.cache ++ [((n : Int), bb)] := ⟨_, rfl⟩
    unfold DevsOf at hfs
    rw [← hcs] at hfs
    have hcl : cs.length ≤ 8 := by have := HD.out.2.2.2.2.2; rw [hcs]; simp; omega
    obtain ⟨eX, okX, eF, hfl, okF, hrd⟩ := hfs
    rw [eX] at okX eF hrd
    have EX := Lib.hid eX
    have EF := Lib.hid eF
    have OKX := Lib.hid okX
    have OKF := Lib.hid okF
    have HRD := Lib.hid hrd
    have HFL := Lib.hid hfl
    clear eX eF okX okF hrd hcs hfl x0 x1 x2 x3 x4
    refine (implWriteSec_any _ _ D n bb _ R4.out RBB.out hsm.out (by omega)).mono ?_
    rintro e w5 ⟨v5, rfl, o5, b5⟩
    rw [EX.out] at o5
    obtain ⟨A2, c2, A3, c3, rfl⟩ := o5.rd.shape
    dsimp only at o5
    have bX := bstep b5 (bal1 w5 (.cells #[.slice A2 D.secs.length c2, .slice A3 cs.length c3, .int .i64 (-1), .bool false] 27))
    have Q5 := Lib.hid (box_on Q4.out bX)
    have R5 := Lib.hid (R4.out.on bX)
    have HB5 := Lib.hid (bstep HB4.out bX)
    have RB5 := Lib.hid (RBC.out.on bX)
    have QX5 := Lib.hid (al1 w5 (.cells #[.slice A2 D.secs.length c2, .slice A3 cs.length c3, .int .i64 (-1), .bool false] 27))
    have RX5 := Lib.hid (o5.rd.on (bal1 w5 (.cells #[.slice A2 D.secs.length c2, .slice A3 cs.length c3, .int .i64 (-1), .bool false] 27)))
    clear Q4 R4 HB4 RBC RBB b5 bX o5
    have hsx := Lib.hid (drawn_small (m := 8) OKX.out)
    dsimp only
    go_wp2_with fail
    refine (implFlushDev_any _ _ _ RX5.out hsx.out).mono ?_
    rintro e w6 ⟨v6, rfl, o6, b6⟩
    rw [EF.out] at o6
    obtain ⟨A4, c4, A5, c5, rfl⟩ := o6.rd.shape
    dsimp only [List.length_nil] at o6
    have bF := bstep b6 (bal1 w6 (.cells #[.slice A4 fs.length c4, .slice A5 0 c5, .int .i64 (-1), .bool false] 27))
    have Q6 := Lib.hid (box_on Q5.out bF)
    have R6 := Lib.hid (R5.out.on bF)
    have HB6 := Lib.hid (bstep HB5.out bF)
    have RB6 := Lib.hid (RB5.out.on bF)
    have QX6 := Lib.hid (box_on QX5.out bF)
    have RX6 := Lib.hid (RX5.out.on bF)
    have QF6 := Lib.hid (al1 w6 (.cells #[.slice A4 fs.length c4, .slice A5 0 c5, .int .i64 (-1), .bool false] 27))
    have RF6 := Lib.hid (o6.rd.on (bal1 w6 (.cells #[.slice A4 fs.length c4, .slice A5 0 c5, .int .i64 (-1), .bool false] 27)))
    have hsf := Lib.hid (drawn_small (m := 8) OKF.out)
    clear Q5 R5 HB5 RB5 QX5 RX5 b6 bF o6
    dsimp only [List.length_nil]
    go_wp2
    generalize w6.alloc (.cells #[.slice A4 fs.length c4, .slice A5 0 c5, .int .i64 (-1), .bool false] 27) = W0 at *
    generalize w5.heap.size = px at *
    generalize w6.heap.size = pf at *
    go_loopw [8] (fun i wr => ∃ k : Nat, k ≤ D.secs.length ∧ i = .int .i64 k ∧ Hid (Below W0.heap.size W0 wr)) (fun i _ => D.secs.length - (intOf i).toNat)
    case atStart => exact ⟨0, Nat.zero_le _, rfl, Lib.hid (Below.refl _ _)⟩
    case round =>
      obtain ⟨k, hk, rfl, HBr⟩ := hrel
      obtain ⟨x0, x1, x2, x3, x4⟩ := box4 (box_on Q6.out HBr.out)
      by_cases hlt : k < D.secs.length
      · have hkf : k < fs.length := by rw [HFL.out]; exact hlt
        obtain ⟨h1, h2, h3, _⟩ := HRD.out k hlt hkf
        obtain ⟨bf, of, cF, A6, c6, hef, y0, y1⟩ := secs_at RF6.out.parts2.1 hkf
        simp at hef
        obtain ⟨rfl, rfl⟩ := hef
        obtain ⟨L, hL⟩ : ∃ L, L = fs[k] := ⟨_, rfl⟩
        rw [← hL] at h1 h2 h3 y0 y1
        have CF : Hid (∀ U, Below W0.heap.size W0 U → (convert 22 9 (.slice A6 L.length c6)).run Try.prog U = .ok (.string ⟨L.toArray⟩) U) := Lib.hid (fun U hU => conv_reads (y1.on hU))
        have HRX : Hid (∀ V, Below W0.heap.size W0 V → Calls Try.prog 20 #[.agg #[.slice A2 D.secs.length c2, .slice A3 cs.length c3, .int .i64 (-1), .bool false], .int .i64 (k : Int)] V (RdOut W0 L V)) := Lib.hid (fun V hV => readOut hV (h1 ▸ implReadSec_any _ _ _ V (RX6.out.on hV) hsx.out))
        have HRF : Hid (∀ V, Below W0.heap.size W0 V → Calls Try.prog 20 #[.agg #[.slice (some ⟨bf, of, none⟩) fs.length c4, .slice A5 0 c5, .int .i64 (-1), .bool false], .int .i64 (k : Int)] V (RdOut W0 L V)) := Lib.hid (fun V hV => readOut hV (h2 ▸ implReadSec_any _ _ _ V (RF6.out.on hV) hsf.out))
        have HRDD : Hid (k ≠ n → ∀ V, Below W0.heap.size W0 V → Calls Try.prog 20 #[.agg #[.slice A0 D.secs.length c0, .slice A1 D.cache.length c1, .int .i64 D.fuse, .bool D.down], .int .i64 (k : Int)] V (RdOut W0 L V)) := Lib.hid (fun hne V hV => readOut hV (h3 hne ▸ implReadSec_any _ _ _ V (R6.out.on hV) hsm.out))
        have HY0 := Lib.hid y0
        have hld : Below W0.heap.size W0 wr.drew := HBr.out.drew
        have i1 : (k : Int) < (fs.length : Int) := by omega
        have i2 : (0 : Int) ≤ (k : Int) := by omega
        clear h1 h2 h3 y0 y1 hL
        by_cases hkn : k = n
        · have tk : ((k : Int) != (n : Int)) = false := by simp [hkn]
          clear hkn HRDD
          go_upto_region 11 with (fail)
          go_cut [76] (fun s76 wx => s76 = .bool false ∧ Hid (Below W0.heap.size W0 wx))
          case first =>
            have hR0 : Below W0.heap.size W0 wr.drew := hld
            refine but_begin (f := 37) (S := fun V => Below wr.drew.heap.size wr.drew V) (by kernel_rfl) ?_
            refine but_take (f := 37) (i := 0) (v := ?ve0) rfl (by kernel_rfl) (by kernel_rfl) (by kernel_rfl) (by kernel_rfl) (by kernel_rfl) (fun _ _ _ h => h) (Or.inl ⟨(by rfl), ?hye0⟩) (Below.refl _ _) ?reste0
            case hye0 =>
              intro W hW
              have hb0 : Below W0.heap.size W0 W := bstep hR0 hW
              obtain ⟨_, x0, x1, x2, x3, b0, b1, b2, b3, d0', d1, d2, d3, yy⟩ := devs_held Q6.out QX6.out QF6.out HY0.out hb0
              have cvf := CF.out _ hb0
              skip
              go_simp
              exact rfl
            simp only [List.getElem_toArray, List.getElem_cons_succ, List.getElem_cons_zero, Act.put, List.setIfInBounds_toArray, List.set_cons_zero, List.set_cons_succ]
            refine but_take (f := 37) (i := 1) (v := ?ve1) rfl (by kernel_rfl) (by kernel_rfl) (by kernel_rfl) (by kernel_rfl) (by kernel_rfl) (fun _ _ _ h => h) (Or.inl ⟨(by rfl), ?hye1⟩) (Below.refl _ _) ?reste1
            case hye1 =>
              intro W hW
              have hb0 : Below W0.heap.size W0 W := bstep hR0 hW
              obtain ⟨_, x0, x1, x2, x3, b0, b1, b2, b3, d0', d1, d2, d3, yy⟩ := devs_held Q6.out QX6.out QF6.out HY0.out hb0
              have cvf := CF.out _ hb0
              skip
              go_simp
              exact rfl
            simp only [List.getElem_toArray, List.getElem_cons_succ, List.getElem_cons_zero, Act.put, List.setIfInBounds_toArray, List.set_cons_zero, List.set_cons_succ]
            refine but_take (f := 37) (i := 2) (v := ?ve2) rfl (by kernel_rfl) (by kernel_rfl) (by kernel_rfl) (by kernel_rfl) (by kernel_rfl) (fun _ _ _ h => h) (Or.inl ⟨(by rfl), ?hye2⟩) (Below.refl _ _) ?reste2
            case hye2 =>
              intro W hW
              have hb0 : Below W0.heap.size W0 W := bstep hR0 hW
              obtain ⟨_, x0, x1, x2, x3, b0, b1, b2, b3, d0', d1, d2, d3, yy⟩ := devs_held Q6.out QX6.out QF6.out HY0.out hb0
              have cvf := CF.out _ hb0
              skip
              go_simp
              exact rfl
            simp only [List.getElem_toArray, List.getElem_cons_succ, List.getElem_cons_zero, Act.put, List.setIfInBounds_toArray, List.set_cons_zero, List.set_cons_succ]
            refine but_take (f := 37) (i := 3) (v := ?ve3) rfl (by kernel_rfl) (by kernel_rfl) (by kernel_rfl) (by kernel_rfl) (by kernel_rfl) (fun _ _ _ h => h) (Or.inl ⟨(by rfl), ?hye3⟩) (Below.refl _ _) ?reste3
            case hye3 =>
              intro W hW
              have hb0 : Below W0.heap.size W0 W := bstep hR0 hW
              obtain ⟨_, x0, x1, x2, x3, b0, b1, b2, b3, d0', d1, d2, d3, yy⟩ := devs_held Q6.out QX6.out QF6.out HY0.out hb0
              have cvf := CF.out _ hb0
              skip
              go_simp
              exact rfl
            simp only [List.getElem_toArray, List.getElem_cons_succ, List.getElem_cons_zero, Act.put, List.setIfInBounds_toArray, List.set_cons_zero, List.set_cons_succ]
            refine but_take (f := 37) (i := 4) (v := undef) rfl (by kernel_rfl) (by kernel_rfl) (by kernel_rfl) (by kernel_rfl) (by kernel_rfl) (fun _ _ _ h => h) (Or.inr ⟨((wanted_at rfl rfl rfl rfl).trans rfl), rfl⟩) (Below.refl _ _) ?_
            simp only [List.getElem_toArray, List.getElem_cons_succ, List.getElem_cons_zero, Act.put, List.setIfInBounds_toArray, List.set_cons_zero, List.set_cons_succ]
            refine but_take (f := 37) (i := 5) (v := undef) rfl (by kernel_rfl) (by kernel_rfl) (by kernel_rfl) (by kernel_rfl) (by kernel_rfl) (fun _ _ _ h => h) (Or.inr ⟨((wanted_at rfl rfl rfl rfl).trans rfl), rfl⟩) (Below.refl _ _) ?_
            simp only [List.getElem_toArray, List.getElem_cons_succ, List.getElem_cons_zero, Act.put, List.setIfInBounds_toArray, List.set_cons_zero, List.set_cons_succ]
            refine but_take (f := 37) (i := 6) (v := undef) rfl (by kernel_rfl) (by kernel_rfl) (by kernel_rfl) (by kernel_rfl) (by kernel_rfl) (fun _ _ _ h => h) (Or.inr ⟨((wanted_at rfl rfl rfl rfl).trans rfl), rfl⟩) (Below.refl _ _) ?_
            simp only [List.getElem_toArray, List.getElem_cons_succ, List.getElem_cons_zero, Act.put, List.setIfInBounds_toArray, List.set_cons_zero, List.set_cons_succ]
            refine but_take (f := 37) (i := 7) (v := undef) rfl (by kernel_rfl) (by kernel_rfl) (by kernel_rfl) (by kernel_rfl) (by kernel_rfl) (fun _ _ _ h => h) (Or.inr ⟨((wanted_at rfl rfl rfl rfl).trans rfl), rfl⟩) (Below.refl _ _) ?_
            simp only [List.getElem_toArray, List.getElem_cons_succ, List.getElem_cons_zero, Act.put, List.setIfInBounds_toArray, List.set_cons_zero, List.set_cons_succ]
            refine but_take (f := 37) (i := 8) (v := undef) rfl (by kernel_rfl) (by kernel_rfl) (by kernel_rfl) (by kernel_rfl) (by kernel_rfl) (fun _ _ _ h => h) (Or.inr ⟨((wanted_at rfl rfl rfl rfl).trans rfl), rfl⟩) (Below.refl _ _) ?_
            simp only [List.getElem_toArray, List.getElem_cons_succ, List.getElem_cons_zero, Act.put, List.setIfInBounds_toArray, List.set_cons_zero, List.set_cons_succ]
            refine but_take (f := 37) (i := 9) (v := undef) rfl (by kernel_rfl) (by kernel_rfl) (by kernel_rfl) (by kernel_rfl) (by kernel_rfl) (fun _ _ _ h => h) (Or.inr ⟨((wanted_at rfl rfl rfl rfl).trans rfl), rfl⟩) (Below.refl _ _) ?_
            simp only [List.getElem_toArray, List.getElem_cons_succ, List.getElem_cons_zero, Act.put, List.setIfInBounds_toArray, List.set_cons_zero, List.set_cons_succ]
            refine but_take (f := 37) (i := 10) (v := undef) rfl (by kernel_rfl) (by kernel_rfl) (by kernel_rfl) (by kernel_rfl) (by kernel_rfl) (fun _ _ _ h => h) (Or.inr ⟨((wanted_at rfl rfl rfl rfl).trans rfl), rfl⟩) (Below.refl _ _) ?_
            simp only [List.getElem_toArray, List.getElem_cons_succ, List.getElem_cons_zero, Act.put, List.setIfInBounds_toArray, List.set_cons_zero, List.set_cons_succ]
            refine but_take (f := 37) (i := 11) (v := undef) rfl (by kernel_rfl) (by kernel_rfl) (by kernel_rfl) (by kernel_rfl) (by kernel_rfl) (fun _ _ _ h => h) (Or.inr ⟨((wanted_at rfl rfl rfl rfl).trans rfl), rfl⟩) (Below.refl _ _) ?_
            simp only [List.getElem_toArray, List.getElem_cons_succ, List.getElem_cons_zero, Act.put, List.setIfInBounds_toArray, List.set_cons_zero, List.set_cons_succ]
            refine but_take (f := 37) (i := 12) (v := undef) rfl (by kernel_rfl) (by kernel_rfl) (by kernel_rfl) (by kernel_rfl) (by kernel_rfl) (fun _ _ _ h => h) (Or.inr ⟨((wanted_at rfl rfl rfl rfl).trans rfl), rfl⟩) (Below.refl _ _) ?_
            simp only [List.getElem_toArray, List.getElem_cons_succ, List.getElem_cons_zero, Act.put, List.setIfInBounds_toArray, List.set_cons_zero, List.set_cons_succ]
            refine but_take (f := 37) (i := 13) (v := ?ve13) rfl (by kernel_rfl) (by kernel_rfl) (by kernel_rfl) (by kernel_rfl) (by kernel_rfl) (fun _ _ _ h => h) (Or.inl ⟨(by rfl), ?hye13⟩) (Below.refl _ _) ?reste13
            case hye13 =>
              intro W hW
              have hb0 : Below W0.heap.size W0 W := bstep hR0 hW
              obtain ⟨_, x0, x1, x2, x3, b0, b1, b2, b3, d0', d1, d2, d3, yy⟩ := devs_held Q6.out QX6.out QF6.out HY0.out hb0
              have cvf := CF.out _ hb0
              skip
              go_simp
              exact rfl
            simp only [List.getElem_toArray, List.getElem_cons_succ, List.getElem_cons_zero, Act.put, List.setIfInBounds_toArray, List.set_cons_zero, List.set_cons_succ]
            refine but_take (f := 37) (i := 14) (v := ?ve14) rfl (by kernel_rfl) (by kernel_rfl) (by kernel_rfl) (by kernel_rfl) (by kernel_rfl) (fun _ _ _ h => h) (Or.inl ⟨(by rfl), ?hye14⟩) (Below.refl _ _) ?reste14
            case hye14 =>
              intro W hW
              have hb0 : Below W0.heap.size W0 W := bstep hR0 hW
              obtain ⟨_, x0, x1, x2, x3, b0, b1, b2, b3, d0', d1, d2, d3, yy⟩ := devs_held Q6.out QX6.out QF6.out HY0.out hb0
              have cvf := CF.out _ hb0
              skip
              go_simp
              exact rfl
            simp only [List.getElem_toArray, List.getElem_cons_succ, List.getElem_cons_zero, Act.put, List.setIfInBounds_toArray, List.set_cons_zero, List.set_cons_succ]
            refine but_take (f := 37) (i := 15) (v := ?ve15) rfl (by kernel_rfl) (by kernel_rfl) (by kernel_rfl) (by kernel_rfl) (by kernel_rfl) (fun _ _ _ h => h) (Or.inl ⟨((wanted_at rfl rfl rfl rfl).trans rfl), ?hye15⟩) (Below.refl _ _) ?reste15
            case hye15 =>
              intro W hW
              have hb0 : Below W0.heap.size W0 W := bstep hR0 hW
              obtain ⟨_, x0, x1, x2, x3, b0, b1, b2, b3, d0', d1, d2, d3, yy⟩ := devs_held Q6.out QX6.out QF6.out HY0.out hb0
              have cvf := CF.out _ hb0
              skip
              go_simp
              exact rfl
            simp only [List.getElem_toArray, List.getElem_cons_succ, List.getElem_cons_zero, Act.put, List.setIfInBounds_toArray, List.set_cons_zero, List.set_cons_succ]
            refine but_take (f := 37) (i := 16) (v := ?ve16) rfl (by kernel_rfl) (by kernel_rfl) (by kernel_rfl) (by kernel_rfl) (by kernel_rfl) (fun _ _ _ h => h) (Or.inl ⟨((wanted_at rfl rfl rfl rfl).trans rfl), ?hye16⟩) (Below.refl _ _) ?reste16
            case hye16 =>
              intro W hW
              have hb0 : Below W0.heap.size W0 W := bstep hR0 hW
              obtain ⟨_, x0, x1, x2, x3, b0, b1, b2, b3, d0', d1, d2, d3, yy⟩ := devs_held Q6.out QX6.out QF6.out HY0.out hb0
              have cvf := CF.out _ hb0
              skip
              go_simp
              exact rfl
            simp only [List.getElem_toArray, List.getElem_cons_succ, List.getElem_cons_zero, Act.put, List.setIfInBounds_toArray, List.set_cons_zero, List.set_cons_succ]
            refine but_take (f := 37) (i := 19) (v := ?ve19) rfl (by kernel_rfl) (by kernel_rfl) (by kernel_rfl) (by kernel_rfl) (by kernel_rfl) (fun _ _ _ h => h) (Or.inl ⟨((wanted_at rfl rfl rfl rfl).trans rfl), ?hye19⟩) (Below.refl _ _) ?reste19
            case hye19 =>
              intro W hW
              have hb0 : Below W0.heap.size W0 W := bstep hR0 hW
              obtain ⟨_, x0, x1, x2, x3, b0, b1, b2, b3, d0', d1, d2, d3, yy⟩ := devs_held Q6.out QX6.out QF6.out HY0.out hb0
              have cvf := CF.out _ hb0
              skip
              go_simp
              exact rfl
            simp only [List.getElem_toArray, List.getElem_cons_succ, List.getElem_cons_zero, Act.put, List.setIfInBounds_toArray, List.set_cons_zero, List.set_cons_succ]
            refine but_take (f := 37) (i := 20) (v := ?ve20) rfl (by kernel_rfl) (by kernel_rfl) (by kernel_rfl) (by kernel_rfl) (by kernel_rfl) (fun _ _ _ h => h) (Or.inl ⟨((wanted_at rfl rfl rfl rfl).trans rfl), ?hye20⟩) (Below.refl _ _) ?reste20
            case hye20 =>
              intro W hW
              have hb0 : Below W0.heap.size W0 W := bstep hR0 hW
              obtain ⟨_, x0, x1, x2, x3, b0, b1, b2, b3, d0', d1, d2, d3, yy⟩ := devs_held Q6.out QX6.out QF6.out HY0.out hb0
              have cvf := CF.out _ hb0
              skip
              go_simp
              exact rfl
            simp only [List.getElem_toArray, List.getElem_cons_succ, List.getElem_cons_zero, Act.put, List.setIfInBounds_toArray, List.set_cons_zero, List.set_cons_succ]
            refine but_run (i := 17) (by kernel_rfl) rfl ((wanted_at rfl rfl rfl rfl).trans rfl) ?_
            simp only [List.getElem_toArray, List.getElem_cons_succ, List.getElem_cons_zero]
            intro K HK
            go_wp2_with fail
            refine (HRF.out _ hR0).mono ?_
            rintro r V3 ⟨A3', c3', rfl, hR3, hB3, hc3⟩
            go_wp2_with fail
            refine HK.out _ V3 (fun _ => hB3) ?_
            clear HK
            refine but_more (S' := fun V => Below V3.heap.size V3 V) (fun V h => bstep hB3 h) ?_
            refine but_take (f := 37) (i := 18) (v := ?ve18) rfl (by kernel_rfl) (by kernel_rfl) (by kernel_rfl) (by kernel_rfl) (by kernel_rfl) (fun _ _ _ h => h) (Or.inl ⟨((wanted_at rfl rfl rfl rfl).trans rfl), ?hye18⟩) (Below.refl _ _) ?reste18
            case hye18 =>
              intro W hW
              have hb0 : Below W0.heap.size W0 W := bstep hR3 hW
              obtain ⟨_, x0, x1, x2, x3, b0, b1, b2, b3, d0', d1, d2, d3, yy⟩ := devs_held Q6.out QX6.out QF6.out HY0.out hb0
              have cvf := CF.out _ hb0
              have cv := hc3 _ hW
              go_simp
              exact rfl
            simp only [List.getElem_toArray, List.getElem_cons_succ, List.getElem_cons_zero, Act.put, List.setIfInBounds_toArray, List.set_cons_zero, List.set_cons_succ]
            refine but_run (i := 21) (by kernel_rfl) rfl ((wanted_at rfl rfl rfl rfl).trans rfl) ?_
            simp only [List.getElem_toArray, List.getElem_cons_succ, List.getElem_cons_zero]
            intro K HK
            go_wp2_with fail
            refine (HRX.out _ hR3).mono ?_
            rintro r V4 ⟨A4', c4', rfl, hR4, hB4, hc4⟩
            go_wp2_with fail
            refine HK.out _ V4 (fun _ => hB4) ?_
            clear HK
            refine but_more (S' := fun V => Below V4.heap.size V4 V) (fun V h => bstep hB4 h) ?_
            refine but_take (f := 37) (i := 22) (v := ?ve22) rfl (by kernel_rfl) (by kernel_rfl) (by kernel_rfl) (by kernel_rfl) (by kernel_rfl) (fun _ _ _ h => h) (Or.inl ⟨((wanted_at rfl rfl rfl rfl).trans rfl), ?hye22⟩) (Below.refl _ _) ?reste22
            case hye22 =>
              intro W hW
              have hb0 : Below W0.heap.size W0 W := bstep hR4 hW
              obtain ⟨_, x0, x1, x2, x3, b0, b1, b2, b3, d0', d1, d2, d3, yy⟩ := devs_held Q6.out QX6.out QF6.out HY0.out hb0
              have cvf := CF.out _ hb0
              have cv := hc4 _ hW
              go_simp
              exact rfl
            simp only [List.getElem_toArray, List.getElem_cons_succ, List.getElem_cons_zero, Act.put, List.setIfInBounds_toArray, List.set_cons_zero, List.set_cons_succ]
            refine but_take (f := 37) (i := 23) (v := ?ve23) rfl (by kernel_rfl) (by kernel_rfl) (by kernel_rfl) (by kernel_rfl) (by kernel_rfl) (fun _ _ _ h => h) (Or.inl ⟨((wanted_at rfl rfl rfl rfl).trans rfl), ?hye23⟩) (Below.refl _ _) ?reste23
            case hye23 =>
              intro W hW
              have hb0 : Below W0.heap.size W0 W := bstep hR4 hW
              obtain ⟨_, x0, x1, x2, x3, b0, b1, b2, b3, d0', d1, d2, d3, yy⟩ := devs_held Q6.out QX6.out QF6.out HY0.out hb0
              have cvf := CF.out _ hb0
              skip
              go_simp
              exact rfl
            simp only [List.getElem_toArray, List.getElem_cons_succ, List.getElem_cons_zero, Act.put, List.setIfInBounds_toArray, List.set_cons_zero, List.set_cons_succ]
            refine but_take (f := 37) (i := 24) (v := ?ve24) rfl (by kernel_rfl) (by kernel_rfl) (by kernel_rfl) (by kernel_rfl) (by kernel_rfl) (fun _ _ _ h => h) (Or.inl ⟨(by rfl), ?hye24⟩) (Below.refl _ _) ?reste24
            case hye24 =>
              intro W hW
              have hb0 : Below W0.heap.size W0 W := bstep hR4 hW
              obtain ⟨_, x0, x1, x2, x3, b0, b1, b2, b3, d0', d1, d2, d3, yy⟩ := devs_held Q6.out QX6.out QF6.out HY0.out hb0
              have cvf := CF.out _ hb0
              skip
              go_simp
              exact rfl
            simp only [List.getElem_toArray, List.getElem_cons_succ, List.getElem_cons_zero, Act.put, List.setIfInBounds_toArray, List.set_cons_zero, List.set_cons_succ]
            refine but_take (f := 37) (i := 25) (v := ?ve25) rfl (by kernel_rfl) (by kernel_rfl) (by kernel_rfl) (by kernel_rfl) (by kernel_rfl) (fun _ _ _ h => h) (Or.inl ⟨(by rfl), ?hye25⟩) (Below.refl _ _) ?reste25
            case hye25 =>
              intro W hW
              have hb0 : Below W0.heap.size W0 W := bstep hR4 hW
              obtain ⟨_, x0, x1, x2, x3, b0, b1, b2, b3, d0', d1, d2, d3, yy⟩ := devs_held Q6.out QX6.out QF6.out HY0.out hb0
              have cvf := CF.out _ hb0
              skip
              go_simp
              exact rfl
            simp only [List.getElem_toArray, List.getElem_cons_succ, List.getElem_cons_zero, Act.put, List.setIfInBounds_toArray, List.set_cons_zero, List.set_cons_succ]
            refine but_take (f := 37) (i := 26) (v := ?ve26) rfl (by kernel_rfl) (by kernel_rfl) (by kernel_rfl) (by kernel_rfl) (by kernel_rfl) (fun _ _ _ h => h) (Or.inl ⟨((wanted_at rfl rfl rfl rfl).trans rfl), ?hye26⟩) (Below.refl _ _) ?reste26
            case hye26 =>
              intro W hW
              have hb0 : Below W0.heap.size W0 W := bstep hR4 hW
              obtain ⟨_, x0, x1, x2, x3, b0, b1, b2, b3, d0', d1, d2, d3, yy⟩ := devs_held Q6.out QX6.out QF6.out HY0.out hb0
              have cvf := CF.out _ hb0
              skip
              go_simp
              exact rfl
            simp only [List.getElem_toArray, List.getElem_cons_succ, List.getElem_cons_zero, Act.put, List.setIfInBounds_toArray, List.set_cons_zero, List.set_cons_succ]
            refine but_take (f := 37) (i := 27) (v := ?ve27) rfl (by kernel_rfl) (by kernel_rfl) (by kernel_rfl) (by kernel_rfl) (by kernel_rfl) (fun _ _ _ h => h) (Or.inl ⟨((wanted_at rfl rfl rfl rfl).trans rfl), ?hye27⟩) (Below.refl _ _) ?reste27
            case hye27 =>
              intro W hW
              have hb0 : Below W0.heap.size W0 W := bstep hR4 hW
              obtain ⟨_, x0, x1, x2, x3, b0, b1, b2, b3, d0', d1, d2, d3, yy⟩ := devs_held Q6.out QX6.out QF6.out HY0.out hb0
              have cvf := CF.out _ hb0
              skip
              go_simp
              exact rfl
            simp only [List.getElem_toArray, List.getElem_cons_succ, List.getElem_cons_zero, Act.put, List.setIfInBounds_toArray, List.set_cons_zero, List.set_cons_succ]
            refine but_take (f := 37) (i := 28) (v := ?ve28) rfl (by kernel_rfl) (by kernel_rfl) (by kernel_rfl) (by kernel_rfl) (by kernel_rfl) (fun _ _ _ h => h) (Or.inl ⟨((wanted_at rfl rfl rfl rfl).trans rfl), ?hye28⟩) (Below.refl _ _) ?reste28
            case hye28 =>
              intro W hW
              have hb0 : Below W0.heap.size W0 W := bstep hR4 hW
              obtain ⟨_, x0, x1, x2, x3, b0, b1, b2, b3, d0', d1, d2, d3, yy⟩ := devs_held Q6.out QX6.out QF6.out HY0.out hb0
              have cvf := CF.out _ hb0
              skip
              go_simp
              exact rfl
            simp only [List.getElem_toArray, List.getElem_cons_succ, List.getElem_cons_zero, Act.put, List.setIfInBounds_toArray, List.set_cons_zero, List.set_cons_succ]
            refine but_take (f := 37) (i := 29) (v := ?ve29) rfl (by kernel_rfl) (by kernel_rfl) (by kernel_rfl) (by kernel_rfl) (by kernel_rfl) (fun _ _ _ h => h) (Or.inl ⟨((wanted_at rfl rfl rfl rfl).trans rfl), ?hye29⟩) (Below.refl _ _) ?reste29
            case hye29 =>
              intro W hW
              have hb0 : Below W0.heap.size W0 W := bstep hR4 hW
              obtain ⟨_, x0, x1, x2, x3, b0, b1, b2, b3, d0', d1, d2, d3, yy⟩ := devs_held Q6.out QX6.out QF6.out HY0.out hb0
              have cvf := CF.out _ hb0
              skip
              go_simp
              exact rfl
            simp only [List.getElem_toArray, List.getElem_cons_succ, List.getElem_cons_zero, Act.put, List.setIfInBounds_toArray, List.set_cons_zero, List.set_cons_succ]
            refine but_take (f := 37) (i := 30) (v := ?ve30) rfl (by kernel_rfl) (by kernel_rfl) (by kernel_rfl) (by kernel_rfl) (by kernel_rfl) (fun _ _ _ h => h) (Or.inl ⟨((wanted_at rfl rfl rfl rfl).trans rfl), ?hye30⟩) (Below.refl _ _) ?reste30
            case hye30 =>
              intro W hW
              have hb0 : Below W0.heap.size W0 W := bstep hR4 hW
              obtain ⟨_, x0, x1, x2, x3, b0, b1, b2, b3, d0', d1, d2, d3, yy⟩ := devs_held Q6.out QX6.out QF6.out HY0.out hb0
              have cvf := CF.out _ hb0
              skip
              go_simp
              exact rfl
            simp only [List.getElem_toArray, List.getElem_cons_succ, List.getElem_cons_zero, Act.put, List.setIfInBounds_toArray, List.set_cons_zero, List.set_cons_succ]
            refine but_take (f := 37) (i := 31) (v := ?ve31) rfl (by kernel_rfl) (by kernel_rfl) (by kernel_rfl) (by kernel_rfl) (by kernel_rfl) (fun _ _ _ h => h) (Or.inl ⟨((wanted_at rfl rfl rfl rfl).trans rfl), ?hye31⟩) (Below.refl _ _) ?reste31
            case hye31 =>
              intro W hW
              have hb0 : Below W0.heap.size W0 W := bstep hR4 hW
              obtain ⟨_, x0, x1, x2, x3, b0, b1, b2, b3, d0', d1, d2, d3, yy⟩ := devs_held Q6.out QX6.out QF6.out HY0.out hb0
              have cvf := CF.out _ hb0
              skip
              go_simp
              exact rfl
            simp only [List.getElem_toArray, List.getElem_cons_succ, List.getElem_cons_zero, Act.put, List.setIfInBounds_toArray, List.set_cons_zero, List.set_cons_succ]
            refine but_take (f := 37) (i := 32) (v := ?ve32) rfl (by kernel_rfl) (by kernel_rfl) (by kernel_rfl) (by kernel_rfl) (by kernel_rfl) (fun _ _ _ h => h) (Or.inl ⟨((wanted_at rfl rfl rfl rfl).trans rfl), ?hye32⟩) (Below.refl _ _) ?reste32
            case hye32 =>
              intro W hW
              have hb0 : Below W0.heap.size W0 W := bstep hR4 hW
              obtain ⟨_, x0, x1, x2, x3, b0, b1, b2, b3, d0', d1, d2, d3, yy⟩ := devs_held Q6.out QX6.out QF6.out HY0.out hb0
              have cvf := CF.out _ hb0
              skip
              go_simp
              exact rfl
            simp only [List.getElem_toArray, List.getElem_cons_succ, List.getElem_cons_zero, Act.put, List.setIfInBounds_toArray, List.set_cons_zero, List.set_cons_succ]
            refine but_take (f := 37) (i := 33) (v := ?ve33) rfl (by kernel_rfl) (by kernel_rfl) (by kernel_rfl) (by kernel_rfl) (by kernel_rfl) (fun _ _ _ h => h) (Or.inl ⟨((wanted_at rfl rfl rfl rfl).trans rfl), ?hye33⟩) (Below.refl _ _) ?reste33
            case hye33 =>
              intro W hW
              have hb0 : Below W0.heap.size W0 W := bstep hR4 hW
              obtain ⟨_, x0, x1, x2, x3, b0, b1, b2, b3, d0', d1, d2, d3, yy⟩ := devs_held Q6.out QX6.out QF6.out HY0.out hb0
              have cvf := CF.out _ hb0
              skip
              go_simp
              exact rfl
            simp only [List.getElem_toArray, List.getElem_cons_succ, List.getElem_cons_zero, Act.put, List.setIfInBounds_toArray, List.set_cons_zero, List.set_cons_succ]
            refine but_run (i := 34) (by kernel_rfl) rfl ((wanted_at rfl rfl rfl rfl).trans rfl) ?_
            simp only [List.getElem_toArray, List.getElem_cons_succ, List.getElem_cons_zero]
            intro K HK
            go_wp2_with fail
            refine (HRX.out _ hR4).mono ?_
            rintro r V5 ⟨A5', c5', rfl, hR5, hB5, hc5⟩
            go_wp2_with fail
            refine HK.out _ V5 (fun _ => hB5) ?_
            clear HK
            refine but_more (S' := fun V => Below V5.heap.size V5 V) (fun V h => bstep hB5 h) ?_
            refine but_take (f := 37) (i := 35) (v := ?ve35) rfl (by kernel_rfl) (by kernel_rfl) (by kernel_rfl) (by kernel_rfl) (by kernel_rfl) (fun _ _ _ h => h) (Or.inl ⟨((wanted_at rfl rfl rfl rfl).trans rfl), ?hye35⟩) (Below.refl _ _) ?reste35
            case hye35 =>
              intro W hW
              have hb0 : Below W0.heap.size W0 W := bstep hR5 hW
              obtain ⟨_, x0, x1, x2, x3, b0, b1, b2, b3, d0', d1, d2, d3, yy⟩ := devs_held Q6.out QX6.out QF6.out HY0.out hb0
              have cvf := CF.out _ hb0
              have cv := hc5 _ hW
              go_simp
              exact rfl
            simp only [List.getElem_toArray, List.getElem_cons_succ, List.getElem_cons_zero, Act.put, List.setIfInBounds_toArray, List.set_cons_zero, List.set_cons_succ]
            refine but_take (f := 37) (i := 36) (v := ?ve36) rfl (by kernel_rfl) (by kernel_rfl) (by kernel_rfl) (by kernel_rfl) (by kernel_rfl) (fun _ _ _ h => h) (Or.inl ⟨((wanted_at rfl rfl rfl rfl).trans rfl), ?hye36⟩) (Below.refl _ _) ?reste36
            case hye36 =>
              intro W hW
              have hb0 : Below W0.heap.size W0 W := bstep hR5 hW
              obtain ⟨_, x0, x1, x2, x3, b0, b1, b2, b3, d0', d1, d2, d3, yy⟩ := devs_held Q6.out QX6.out QF6.out HY0.out hb0
              have cvf := CF.out _ hb0
              skip
              go_simp
              exact rfl
            simp only [List.getElem_toArray, List.getElem_cons_succ, List.getElem_cons_zero, Act.put, List.setIfInBounds_toArray, List.set_cons_zero, List.set_cons_succ]
            refine but_run (i := 37) (by kernel_rfl) rfl (by rfl) ?_
            simp only [List.getElem_toArray, List.getElem_cons_succ, List.getElem_cons_zero]
            intro K HK
            go_wp2_with fail
            refine HK.out _ V5 (fun h => absurd rfl h) ?_
            clear HK
            refine but_done (by kernel_rfl) ?_
            go_wp2_with fail
            go_meet
            exact ⟨rfl, Lib.hid hR5⟩
          case rest =>
            obtain ⟨rfl, HW⟩ := hcut
            go_wp2
            go_roundw
            case rel => exact ⟨k + 1, by omega, by go_num, HW⟩
            case measure => simp [intOf]; omega
        · have tk : ((k : Int) != (n : Int)) = true := by simp; omega
          have HRE := Lib.hid (HRDD.out hkn)
          clear hkn HRDD
          go_upto_region 11 with (fail)
          go_cut [76] (fun s76 wx => s76 = .bool false ∧ Hid (Below W0.heap.size W0 wx))
          case first =>
            have hR0 : Below W0.heap.size W0 wr.drew := hld
            refine but_begin (f := 37) (S := fun V => Below wr.drew.heap.size wr.drew V) (by kernel_rfl) ?_
            refine but_take (f := 37) (i := 0) (v := ?vu0) rfl (by kernel_rfl) (by kernel_rfl) (by kernel_rfl) (by kernel_rfl) (by kernel_rfl) (fun _ _ _ h => h) (Or.inl ⟨(by rfl), ?hyu0⟩) (Below.refl _ _) ?restu0
            case hyu0 =>
              intro W hW
              have hb0 : Below W0.heap.size W0 W := bstep hR0 hW
              obtain ⟨_, x0, x1, x2, x3, b0, b1, b2, b3, d0', d1, d2, d3, yy⟩ := devs_held Q6.out QX6.out QF6.out HY0.out hb0
              have cvf := CF.out _ hb0
              skip
              go_simp
              exact rfl
            simp only [List.getElem_toArray, List.getElem_cons_succ, List.getElem_cons_zero, Act.put, List.setIfInBounds_toArray, List.set_cons_zero, List.set_cons_succ]
            refine but_take (f := 37) (i := 1) (v := ?vu1) rfl (by kernel_rfl) (by kernel_rfl) (by kernel_rfl) (by kernel_rfl) (by kernel_rfl) (fun _ _ _ h => h) (Or.inl ⟨(by rfl), ?hyu1⟩) (Below.refl _ _) ?restu1
            case hyu1 =>
              intro W hW
              have hb0 : Below W0.heap.size W0 W := bstep hR0 hW
              obtain ⟨_, x0, x1, x2, x3, b0, b1, b2, b3, d0', d1, d2, d3, yy⟩ := devs_held Q6.out QX6.out QF6.out HY0.out hb0
              have cvf := CF.out _ hb0
              skip
              go_simp
              exact rfl
            simp only [List.getElem_toArray, List.getElem_cons_succ, List.getElem_cons_zero, Act.put, List.setIfInBounds_toArray, List.set_cons_zero, List.set_cons_succ]
            refine but_take (f := 37) (i := 2) (v := ?vu2) rfl (by kernel_rfl) (by kernel_rfl) (by kernel_rfl) (by kernel_rfl) (by kernel_rfl) (fun _ _ _ h => h) (Or.inl ⟨(by rfl), ?hyu2⟩) (Below.refl _ _) ?restu2
            case hyu2 =>
              intro W hW
              have hb0 : Below W0.heap.size W0 W := bstep hR0 hW
              obtain ⟨_, x0, x1, x2, x3, b0, b1, b2, b3, d0', d1, d2, d3, yy⟩ := devs_held Q6.out QX6.out QF6.out HY0.out hb0
              have cvf := CF.out _ hb0
              skip
              go_simp
              exact rfl
            simp only [List.getElem_toArray, List.getElem_cons_succ, List.getElem_cons_zero, Act.put, List.setIfInBounds_toArray, List.set_cons_zero, List.set_cons_succ]
            refine but_take (f := 37) (i := 3) (v := ?vu3) rfl (by kernel_rfl) (by kernel_rfl) (by kernel_rfl) (by kernel_rfl) (by kernel_rfl) (fun _ _ _ h => h) (Or.inl ⟨(by rfl), ?hyu3⟩) (Below.refl _ _) ?restu3
            case hyu3 =>
              intro W hW
              have hb0 : Below W0.heap.size W0 W := bstep hR0 hW
              obtain ⟨_, x0, x1, x2, x3, b0, b1, b2, b3, d0', d1, d2, d3, yy⟩ := devs_held Q6.out QX6.out QF6.out HY0.out hb0
              have cvf := CF.out _ hb0
              skip
              go_simp
              exact rfl
            simp only [List.getElem_toArray, List.getElem_cons_succ, List.getElem_cons_zero, Act.put, List.setIfInBounds_toArray, List.set_cons_zero, List.set_cons_succ]
            refine but_take (f := 37) (i := 4) (v := ?vu4) rfl (by kernel_rfl) (by kernel_rfl) (by kernel_rfl) (by kernel_rfl) (by kernel_rfl) (fun _ _ _ h => h) (Or.inl ⟨((wanted_at rfl rfl rfl rfl).trans rfl), ?hyu4⟩) (Below.refl _ _) ?restu4
            case hyu4 =>
              intro W hW
              have hb0 : Below W0.heap.size W0 W := bstep hR0 hW
              obtain ⟨_, x0, x1, x2, x3, b0, b1, b2, b3, d0', d1, d2, d3, yy⟩ := devs_held Q6.out QX6.out QF6.out HY0.out hb0
              have cvf := CF.out _ hb0
              skip
              go_simp
              exact rfl
            simp only [List.getElem_toArray, List.getElem_cons_succ, List.getElem_cons_zero, Act.put, List.setIfInBounds_toArray, List.set_cons_zero, List.set_cons_succ]
            refine but_take (f := 37) (i := 5) (v := ?vu5) rfl (by kernel_rfl) (by kernel_rfl) (by kernel_rfl) (by kernel_rfl) (by kernel_rfl) (fun _ _ _ h => h) (Or.inl ⟨((wanted_at rfl rfl rfl rfl).trans rfl), ?hyu5⟩) (Below.refl _ _) ?restu5
            case hyu5 =>
              intro W hW
              have hb0 : Below W0.heap.size W0 W := bstep hR0 hW
              obtain ⟨_, x0, x1, x2, x3, b0, b1, b2, b3, d0', d1, d2, d3, yy⟩ := devs_held Q6.out QX6.out QF6.out HY0.out hb0
              have cvf := CF.out _ hb0
              skip
              go_simp
              exact rfl
            simp only [List.getElem_toArray, List.getElem_cons_succ, List.getElem_cons_zero, Act.put, List.setIfInBounds_toArray, List.set_cons_zero, List.set_cons_succ]
            refine but_take (f := 37) (i := 8) (v := ?vu8) rfl (by kernel_rfl) (by kernel_rfl) (by kernel_rfl) (by kernel_rfl) (by kernel_rfl) (fun _ _ _ h => h) (Or.inl ⟨((wanted_at rfl rfl rfl rfl).trans rfl), ?hyu8⟩) (Below.refl _ _) ?restu8
            case hyu8 =>
              intro W hW
              have hb0 : Below W0.heap.size W0 W := bstep hR0 hW
              obtain ⟨_, x0, x1, x2, x3, b0, b1, b2, b3, d0', d1, d2, d3, yy⟩ := devs_held Q6.out QX6.out QF6.out HY0.out hb0
              have cvf := CF.out _ hb0
              skip
              go_simp
              exact rfl
            simp only [List.getElem_toArray, List.getElem_cons_succ, List.getElem_cons_zero, Act.put, List.setIfInBounds_toArray, List.set_cons_zero, List.set_cons_succ]
            refine but_take (f := 37) (i := 9) (v := ?vu9) rfl (by kernel_rfl) (by kernel_rfl) (by kernel_rfl) (by kernel_rfl) (by kernel_rfl) (fun _ _ _ h => h) (Or.inl ⟨((wanted_at rfl rfl rfl rfl).trans rfl), ?hyu9⟩) (Below.refl _ _) ?restu9
            case hyu9 =>
              intro W hW
              have hb0 : Below W0.heap.size W0 W := bstep hR0 hW
              obtain ⟨_, x0, x1, x2, x3, b0, b1, b2, b3, d0', d1, d2, d3, yy⟩ := devs_held Q6.out QX6.out QF6.out HY0.out hb0
              have cvf := CF.out _ hb0
              skip
              go_simp
              exact rfl
            simp only [List.getElem_toArray, List.getElem_cons_succ, List.getElem_cons_zero, Act.put, List.setIfInBounds_toArray, List.set_cons_zero, List.set_cons_succ]
            refine but_run (i := 6) (by kernel_rfl) rfl ((wanted_at rfl rfl rfl rfl).trans rfl) ?_
            simp only [List.getElem_toArray, List.getElem_cons_succ, List.getElem_cons_zero]
            intro K HK
            go_wp2_with fail
            refine (HRX.out _ hR0).mono ?_
            rintro r V1 ⟨A1', c1', rfl, hR1, hB1, hc1⟩
            go_wp2_with fail
            refine HK.out _ V1 (fun _ => hB1) ?_
            clear HK
            refine but_more (S' := fun V => Below V1.heap.size V1 V) (fun V h => bstep hB1 h) ?_
            refine but_take (f := 37) (i := 7) (v := ?vu7) rfl (by kernel_rfl) (by kernel_rfl) (by kernel_rfl) (by kernel_rfl) (by kernel_rfl) (fun _ _ _ h => h) (Or.inl ⟨((wanted_at rfl rfl rfl rfl).trans rfl), ?hyu7⟩) (Below.refl _ _) ?restu7
            case hyu7 =>
              intro W hW
              have hb0 : Below W0.heap.size W0 W := bstep hR1 hW
              obtain ⟨_, x0, x1, x2, x3, b0, b1, b2, b3, d0', d1, d2, d3, yy⟩ := devs_held Q6.out QX6.out QF6.out HY0.out hb0
              have cvf := CF.out _ hb0
              have cv := hc1 _ hW
              go_simp
              exact rfl
            simp only [List.getElem_toArray, List.getElem_cons_succ, List.getElem_cons_zero, Act.put, List.setIfInBounds_toArray, List.set_cons_zero, List.set_cons_succ]
            refine but_run (i := 10) (by kernel_rfl) rfl ((wanted_at rfl rfl rfl rfl).trans rfl) ?_
            simp only [List.getElem_toArray, List.getElem_cons_succ, List.getElem_cons_zero]
            intro K HK
            go_wp2_with fail
            refine (HRE.out _ hR1).mono ?_
            rintro r V2 ⟨A2', c2', rfl, hR2, hB2, hc2⟩
            go_wp2_with fail
            refine HK.out _ V2 (fun _ => hB2) ?_
            clear HK
            refine but_more (S' := fun V => Below V2.heap.size V2 V) (fun V h => bstep hB2 h) ?_
            refine but_take (f := 37) (i := 11) (v := ?vu11) rfl (by kernel_rfl) (by kernel_rfl) (by kernel_rfl) (by kernel_rfl) (by kernel_rfl) (fun _ _ _ h => h) (Or.inl ⟨((wanted_at rfl rfl rfl rfl).trans rfl), ?hyu11⟩) (Below.refl _ _) ?restu11
            case hyu11 =>
              intro W hW
              have hb0 : Below W0.heap.size W0 W := bstep hR2 hW
              obtain ⟨_, x0, x1, x2, x3, b0, b1, b2, b3, d0', d1, d2, d3, yy⟩ := devs_held Q6.out QX6.out QF6.out HY0.out hb0
              have cvf := CF.out _ hb0
              have cv := hc2 _ hW
              go_simp
              exact rfl
            simp only [List.getElem_toArray, List.getElem_cons_succ, List.getElem_cons_zero, Act.put, List.setIfInBounds_toArray, List.set_cons_zero, List.set_cons_succ]
            refine but_take (f := 37) (i := 12) (v := ?vu12) rfl (by kernel_rfl) (by kernel_rfl) (by kernel_rfl) (by kernel_rfl) (by kernel_rfl) (fun _ _ _ h => h) (Or.inl ⟨((wanted_at rfl rfl rfl rfl).trans rfl), ?hyu12⟩) (Below.refl _ _) ?restu12
            case hyu12 =>
              intro W hW
              have hb0 : Below W0.heap.size W0 W := bstep hR2 hW
              obtain ⟨_, x0, x1, x2, x3, b0, b1, b2, b3, d0', d1, d2, d3, yy⟩ := devs_held Q6.out QX6.out QF6.out HY0.out hb0
              have cvf := CF.out _ hb0
              skip
              go_simp
              exact rfl
            simp only [List.getElem_toArray, List.getElem_cons_succ, List.getElem_cons_zero, Act.put, List.setIfInBounds_toArray, List.set_cons_zero, List.set_cons_succ]
            refine but_take (f := 37) (i := 13) (v := ?vu13) rfl (by kernel_rfl) (by kernel_rfl) (by kernel_rfl) (by kernel_rfl) (by kernel_rfl) (fun _ _ _ h => h) (Or.inl ⟨(by rfl), ?hyu13⟩) (Below.refl _ _) ?restu13
            case hyu13 =>
              intro W hW
              have hb0 : Below W0.heap.size W0 W := bstep hR2 hW
              obtain ⟨_, x0, x1, x2, x3, b0, b1, b2, b3, d0', d1, d2, d3, yy⟩ := devs_held Q6.out QX6.out QF6.out HY0.out hb0
              have cvf := CF.out _ hb0
              skip
              go_simp
              exact rfl
            simp only [List.getElem_toArray, List.getElem_cons_succ, List.getElem_cons_zero, Act.put, List.setIfInBounds_toArray, List.set_cons_zero, List.set_cons_succ]
            refine but_take (f := 37) (i := 14) (v := ?vu14) rfl (by kernel_rfl) (by kernel_rfl) (by kernel_rfl) (by kernel_rfl) (by kernel_rfl) (fun _ _ _ h => h) (Or.inl ⟨(by rfl), ?hyu14⟩) (Below.refl _ _) ?restu14
            case hyu14 =>
              intro W hW
              have hb0 : Below W0.heap.size W0 W := bstep hR2 hW
              obtain ⟨_, x0, x1, x2, x3, b0, b1, b2, b3, d0', d1, d2, d3, yy⟩ := devs_held Q6.out QX6.out QF6.out HY0.out hb0
              have cvf := CF.out _ hb0
              skip
              go_simp
              exact rfl
            simp only [List.getElem_toArray, List.getElem_cons_succ, List.getElem_cons_zero, Act.put, List.setIfInBounds_toArray, List.set_cons_zero, List.set_cons_succ]
            refine but_take (f := 37) (i := 15) (v := ?vu15) rfl (by kernel_rfl) (by kernel_rfl) (by kernel_rfl) (by kernel_rfl) (by kernel_rfl) (fun _ _ _ h => h) (Or.inl ⟨((wanted_at rfl rfl rfl rfl).trans rfl), ?hyu15⟩) (Below.refl _ _) ?restu15
            case hyu15 =>
              intro W hW
              have hb0 : Below W0.heap.size W0 W := bstep hR2 hW
              obtain ⟨_, x0, x1, x2, x3, b0, b1, b2, b3, d0', d1, d2, d3, yy⟩ := devs_held Q6.out QX6.out QF6.out HY0.out hb0
              have cvf := CF.out _ hb0
              skip
              go_simp
              exact rfl
            simp only [List.getElem_toArray, List.getElem_cons_succ, List.getElem_cons_zero, Act.put, List.setIfInBounds_toArray, List.set_cons_zero, List.set_cons_succ]
            refine but_take (f := 37) (i := 16) (v := ?vu16) rfl (by kernel_rfl) (by kernel_rfl) (by kernel_rfl) (by kernel_rfl) (by kernel_rfl) (fun _ _ _ h => h) (Or.inl ⟨((wanted_at rfl rfl rfl rfl).trans rfl), ?hyu16⟩) (Below.refl _ _) ?restu16
            case hyu16 =>
              intro W hW
              have hb0 : Below W0.heap.size W0 W := bstep hR2 hW
              obtain ⟨_, x0, x1, x2, x3, b0, b1, b2, b3, d0', d1, d2, d3, yy⟩ := devs_held Q6.out QX6.out QF6.out HY0.out hb0
              have cvf := CF.out _ hb0
              skip
              go_simp
              exact rfl
            simp only [List.getElem_toArray, List.getElem_cons_succ, List.getElem_cons_zero, Act.put, List.setIfInBounds_toArray, List.set_cons_zero, List.set_cons_succ]
            refine but_take (f := 37) (i := 19) (v := ?vu19) rfl (by kernel_rfl) (by kernel_rfl) (by kernel_rfl) (by kernel_rfl) (by kernel_rfl) (fun _ _ _ h => h) (Or.inl ⟨((wanted_at rfl rfl rfl rfl).trans rfl), ?hyu19⟩) (Below.refl _ _) ?restu19
            case hyu19 =>
              intro W hW
              have hb0 : Below W0.heap.size W0 W := bstep hR2 hW
              obtain ⟨_, x0, x1, x2, x3, b0, b1, b2, b3, d0', d1, d2, d3, yy⟩ := devs_held Q6.out QX6.out QF6.out HY0.out hb0
              have cvf := CF.out _ hb0
              skip
              go_simp
              exact rfl
            simp only [List.getElem_toArray, List.getElem_cons_succ, List.getElem_cons_zero, Act.put, List.setIfInBounds_toArray, List.set_cons_zero, List.set_cons_succ]
            refine but_take (f := 37) (i := 20) (v := ?vu20) rfl (by kernel_rfl) (by kernel_rfl) (by kernel_rfl) (by kernel_rfl) (by kernel_rfl) (fun _ _ _ h => h) (Or.inl ⟨((wanted_at rfl rfl rfl rfl).trans rfl), ?hyu20⟩) (Below.refl _ _) ?restu20
            case hyu20 =>
              intro W hW
              have hb0 : Below W0.heap.size W0 W := bstep hR2 hW
              obtain ⟨_, x0, x1, x2, x3, b0, b1, b2, b3, d0', d1, d2, d3, yy⟩ := devs_held Q6.out QX6.out QF6.out HY0.out hb0
              have cvf := CF.out _ hb0
              skip
              go_simp
              exact rfl
            simp only [List.getElem_toArray, List.getElem_cons_succ, List.getElem_cons_zero, Act.put, List.setIfInBounds_toArray, List.set_cons_zero, List.set_cons_succ]
            refine but_run (i := 17) (by kernel_rfl) rfl ((wanted_at rfl rfl rfl rfl).trans rfl) ?_
            simp only [List.getElem_toArray, List.getElem_cons_succ, List.getElem_cons_zero]
            intro K HK
            go_wp2_with fail
            refine (HRF.out _ hR2).mono ?_
            rintro r V3 ⟨A3', c3', rfl, hR3, hB3, hc3⟩
            go_wp2_with fail
            refine HK.out _ V3 (fun _ => hB3) ?_
            clear HK
            refine but_more (S' := fun V => Below V3.heap.size V3 V) (fun V h => bstep hB3 h) ?_
            refine but_take (f := 37) (i := 18) (v := ?vu18) rfl (by kernel_rfl) (by kernel_rfl) (by kernel_rfl) (by kernel_rfl) (by kernel_rfl) (fun _ _ _ h => h) (Or.inl ⟨((wanted_at rfl rfl rfl rfl).trans rfl), ?hyu18⟩) (Below.refl _ _) ?restu18
            case hyu18 =>
              intro W hW
              have hb0 : Below W0.heap.size W0 W := bstep hR3 hW
              obtain ⟨_, x0, x1, x2, x3, b0, b1, b2, b3, d0', d1, d2, d3, yy⟩ := devs_held Q6.out QX6.out QF6.out HY0.out hb0
              have cvf := CF.out _ hb0
              have cv := hc3 _ hW
              go_simp
              exact rfl
            simp only [List.getElem_toArray, List.getElem_cons_succ, List.getElem_cons_zero, Act.put, List.setIfInBounds_toArray, List.set_cons_zero, List.set_cons_succ]
            refine but_run (i := 21) (by kernel_rfl) rfl ((wanted_at rfl rfl rfl rfl).trans rfl) ?_
            simp only [List.getElem_toArray, List.getElem_cons_succ, List.getElem_cons_zero]
            intro K HK
            go_wp2_with fail
            refine (HRX.out _ hR3).mono ?_
            rintro r V4 ⟨A4', c4', rfl, hR4, hB4, hc4⟩
            go_wp2_with fail
            refine HK.out _ V4 (fun _ => hB4) ?_
            clear HK
            refine but_more (S' := fun V => Below V4.heap.size V4 V) (fun V h => bstep hB4 h) ?_
            refine but_take (f := 37) (i := 22) (v := ?vu22) rfl (by kernel_rfl) (by kernel_rfl) (by kernel_rfl) (by kernel_rfl) (by kernel_rfl) (fun _ _ _ h => h) (Or.inl ⟨((wanted_at rfl rfl rfl rfl).trans rfl), ?hyu22⟩) (Below.refl _ _) ?restu22
            case hyu22 =>
              intro W hW
              have hb0 : Below W0.heap.size W0 W := bstep hR4 hW
              obtain ⟨_, x0, x1, x2, x3, b0, b1, b2, b3, d0', d1, d2, d3, yy⟩ := devs_held Q6.out QX6.out QF6.out HY0.out hb0
              have cvf := CF.out _ hb0
              have cv := hc4 _ hW
              go_simp
              exact rfl
            simp only [List.getElem_toArray, List.getElem_cons_succ, List.getElem_cons_zero, Act.put, List.setIfInBounds_toArray, List.set_cons_zero, List.set_cons_succ]
            refine but_take (f := 37) (i := 23) (v := ?vu23) rfl (by kernel_rfl) (by kernel_rfl) (by kernel_rfl) (by kernel_rfl) (by kernel_rfl) (fun _ _ _ h => h) (Or.inl ⟨((wanted_at rfl rfl rfl rfl).trans rfl), ?hyu23⟩) (Below.refl _ _) ?restu23
            case hyu23 =>
              intro W hW
              have hb0 : Below W0.heap.size W0 W := bstep hR4 hW
              obtain ⟨_, x0, x1, x2, x3, b0, b1, b2, b3, d0', d1, d2, d3, yy⟩ := devs_held Q6.out QX6.out QF6.out HY0.out hb0
              have cvf := CF.out _ hb0
              skip
              go_simp
              exact rfl
            simp only [List.getElem_toArray, List.getElem_cons_succ, List.getElem_cons_zero, Act.put, List.setIfInBounds_toArray, List.set_cons_zero, List.set_cons_succ]
            refine but_take (f := 37) (i := 24) (v := ?vu24) rfl (by kernel_rfl) (by kernel_rfl) (by kernel_rfl) (by kernel_rfl) (by kernel_rfl) (fun _ _ _ h => h) (Or.inl ⟨(by rfl), ?hyu24⟩) (Below.refl _ _) ?restu24
            case hyu24 =>
              intro W hW
              have hb0 : Below W0.heap.size W0 W := bstep hR4 hW
              obtain ⟨_, x0, x1, x2, x3, b0, b1, b2, b3, d0', d1, d2, d3, yy⟩ := devs_held Q6.out QX6.out QF6.out HY0.out hb0
              have cvf := CF.out _ hb0
              skip
              go_simp
              exact rfl
            simp only [List.getElem_toArray, List.getElem_cons_succ, List.getElem_cons_zero, Act.put, List.setIfInBounds_toArray, List.set_cons_zero, List.set_cons_succ]
            refine but_take (f := 37) (i := 25) (v := ?vu25) rfl (by kernel_rfl) (by kernel_rfl) (by kernel_rfl) (by kernel_rfl) (by kernel_rfl) (fun _ _ _ h => h) (Or.inl ⟨(by rfl), ?hyu25⟩) (Below.refl _ _) ?restu25
            case hyu25 =>
              intro W hW
              have hb0 : Below W0.heap.size W0 W := bstep hR4 hW
              obtain ⟨_, x0, x1, x2, x3, b0, b1, b2, b3, d0', d1, d2, d3, yy⟩ := devs_held Q6.out QX6.out QF6.out HY0.out hb0
              have cvf := CF.out _ hb0
              skip
              go_simp
              exact rfl
            simp only [List.getElem_toArray, List.getElem_cons_succ, List.getElem_cons_zero, Act.put, List.setIfInBounds_toArray, List.set_cons_zero, List.set_cons_succ]
            refine but_take (f := 37) (i := 26) (v := ?vu26) rfl (by kernel_rfl) (by kernel_rfl) (by kernel_rfl) (by kernel_rfl) (by kernel_rfl) (fun _ _ _ h => h) (Or.inl ⟨((wanted_at rfl rfl rfl rfl).trans rfl), ?hyu26⟩) (Below.refl _ _) ?restu26
            case hyu26 =>
              intro W hW
              have hb0 : Below W0.heap.size W0 W := bstep hR4 hW
              obtain ⟨_, x0, x1, x2, x3, b0, b1, b2, b3, d0', d1, d2, d3, yy⟩ := devs_held Q6.out QX6.out QF6.out HY0.out hb0
              have cvf := CF.out _ hb0
              skip
              go_simp
              exact rfl
            simp only [List.getElem_toArray, List.getElem_cons_succ, List.getElem_cons_zero, Act.put, List.setIfInBounds_toArray, List.set_cons_zero, List.set_cons_succ]
            refine but_take (f := 37) (i := 27) (v := ?vu27) rfl (by kernel_rfl) (by kernel_rfl) (by kernel_rfl) (by kernel_rfl) (by kernel_rfl) (fun _ _ _ h => h) (Or.inl ⟨((wanted_at rfl rfl rfl rfl).trans rfl), ?hyu27⟩) (Below.refl _ _) ?restu27
            case hyu27 =>
              intro W hW
              have hb0 : Below W0.heap.size W0 W := bstep hR4 hW
              obtain ⟨_, x0, x1, x2, x3, b0, b1, b2, b3, d0', d1, d2, d3, yy⟩ := devs_held Q6.out QX6.out QF6.out HY0.out hb0
              have cvf := CF.out _ hb0
              skip
              go_simp
              exact rfl
            simp only [List.getElem_toArray, List.getElem_cons_succ, List.getElem_cons_zero, Act.put, List.setIfInBounds_toArray, List.set_cons_zero, List.set_cons_succ]
            refine but_take (f := 37) (i := 28) (v := ?vu28) rfl (by kernel_rfl) (by kernel_rfl) (by kernel_rfl) (by kernel_rfl) (by kernel_rfl) (fun _ _ _ h => h) (Or.inl ⟨((wanted_at rfl rfl rfl rfl).trans rfl), ?hyu28⟩) (Below.refl _ _) ?restu28
            case hyu28 =>
              intro W hW
              have hb0 : Below W0.heap.size W0 W := bstep hR4 hW
              obtain ⟨_, x0, x1, x2, x3, b0, b1, b2, b3, d0', d1, d2, d3, yy⟩ := devs_held Q6.out QX6.out QF6.out HY0.out hb0
              have cvf := CF.out _ hb0
              skip
              go_simp
              exact rfl
            simp only [List.getElem_toArray, List.getElem_cons_succ, List.getElem_cons_zero, Act.put, List.setIfInBounds_toArray, List.set_cons_zero, List.set_cons_succ]
            refine but_take (f := 37) (i := 29) (v := ?vu29) rfl (by kernel_rfl) (by kernel_rfl) (by kernel_rfl) (by kernel_rfl) (by kernel_rfl) (fun _ _ _ h => h) (Or.inl ⟨((wanted_at rfl rfl rfl rfl).trans rfl), ?hyu29⟩) (Below.refl _ _) ?restu29
            case hyu29 =>
              intro W hW
              have hb0 : Below W0.heap.size W0 W := bstep hR4 hW
              obtain ⟨_, x0, x1, x2, x3, b0, b1, b2, b3, d0', d1, d2, d3, yy⟩ := devs_held Q6.out QX6.out QF6.out HY0.out hb0
              have cvf := CF.out _ hb0
              skip
              go_simp
              exact rfl
            simp only [List.getElem_toArray, List.getElem_cons_succ, List.getElem_cons_zero, Act.put, List.setIfInBounds_toArray, List.set_cons_zero, List.set_cons_succ]
            refine but_take (f := 37) (i := 30) (v := ?vu30) rfl (by kernel_rfl) (by kernel_rfl) (by kernel_rfl) (by kernel_rfl) (by kernel_rfl) (fun _ _ _ h => h) (Or.inl ⟨((wanted_at rfl rfl rfl rfl).trans rfl), ?hyu30⟩) (Below.refl _ _) ?restu30
            case hyu30 =>
              intro W hW
              have hb0 : Below W0.heap.size W0 W := bstep hR4 hW
              obtain ⟨_, x0, x1, x2, x3, b0, b1, b2, b3, d0', d1, d2, d3, yy⟩ := devs_held Q6.out QX6.out QF6.out HY0.out hb0
              have cvf := CF.out _ hb0
              skip
              go_simp
              exact rfl
            simp only [List.getElem_toArray, List.getElem_cons_succ, List.getElem_cons_zero, Act.put, List.setIfInBounds_toArray, List.set_cons_zero, List.set_cons_succ]
            refine but_take (f := 37) (i := 31) (v := ?vu31) rfl (by kernel_rfl) (by kernel_rfl) (by kernel_rfl) (by kernel_rfl) (by kernel_rfl) (fun _ _ _ h => h) (Or.inl ⟨((wanted_at rfl rfl rfl rfl).trans rfl), ?hyu31⟩) (Below.refl _ _) ?restu31
            case hyu31 =>
              intro W hW
              have hb0 : Below W0.heap.size W0 W := bstep hR4 hW
              obtain ⟨_, x0, x1, x2, x3, b0, b1, b2, b3, d0', d1, d2, d3, yy⟩ := devs_held Q6.out QX6.out QF6.out HY0.out hb0
              have cvf := CF.out _ hb0
              skip
              go_simp
              exact rfl
            simp only [List.getElem_toArray, List.getElem_cons_succ, List.getElem_cons_zero, Act.put, List.setIfInBounds_toArray, List.set_cons_zero, List.set_cons_succ]
            refine but_take (f := 37) (i := 32) (v := ?vu32) rfl (by kernel_rfl) (by kernel_rfl) (by kernel_rfl) (by kernel_rfl) (by kernel_rfl) (fun _ _ _ h => h) (Or.inl ⟨((wanted_at rfl rfl rfl rfl).trans rfl), ?hyu32⟩) (Below.refl _ _) ?restu32
            case hyu32 =>
              intro W hW
              have hb0 : Below W0.heap.size W0 W := bstep hR4 hW
              obtain ⟨_, x0, x1, x2, x3, b0, b1, b2, b3, d0', d1, d2, d3, yy⟩ := devs_held Q6.out QX6.out QF6.out HY0.out hb0
              have cvf := CF.out _ hb0
              skip
              go_simp
              exact rfl
            simp only [List.getElem_toArray, List.getElem_cons_succ, List.getElem_cons_zero, Act.put, List.setIfInBounds_toArray, List.set_cons_zero, List.set_cons_succ]
            refine but_take (f := 37) (i := 33) (v := ?vu33) rfl (by kernel_rfl) (by kernel_rfl) (by kernel_rfl) (by kernel_rfl) (by kernel_rfl) (fun _ _ _ h => h) (Or.inl ⟨((wanted_at rfl rfl rfl rfl).trans rfl), ?hyu33⟩) (Below.refl _ _) ?restu33
            case hyu33 =>
              intro W hW
              have hb0 : Below W0.heap.size W0 W := bstep hR4 hW
              obtain ⟨_, x0, x1, x2, x3, b0, b1, b2, b3, d0', d1, d2, d3, yy⟩ := devs_held Q6.out QX6.out QF6.out HY0.out hb0
              have cvf := CF.out _ hb0
              skip
              go_simp
              exact rfl
            simp only [List.getElem_toArray, List.getElem_cons_succ, List.getElem_cons_zero, Act.put, List.setIfInBounds_toArray, List.set_cons_zero, List.set_cons_succ]
            refine but_run (i := 34) (by kernel_rfl) rfl ((wanted_at rfl rfl rfl rfl).trans rfl) ?_
            simp only [List.getElem_toArray, List.getElem_cons_succ, List.getElem_cons_zero]
            intro K HK
            go_wp2_with fail
            refine (HRX.out _ hR4).mono ?_
            rintro r V5 ⟨A5', c5', rfl, hR5, hB5, hc5⟩
            go_wp2_with fail
            refine HK.out _ V5 (fun _ => hB5) ?_
            clear HK
            refine but_more (S' := fun V => Below V5.heap.size V5 V) (fun V h => bstep hB5 h) ?_
            refine but_take (f := 37) (i := 35) (v := ?vu35) rfl (by kernel_rfl) (by kernel_rfl) (by kernel_rfl) (by kernel_rfl) (by kernel_rfl) (fun _ _ _ h => h) (Or.inl ⟨((wanted_at rfl rfl rfl rfl).trans rfl), ?hyu35⟩) (Below.refl _ _) ?restu35
            case hyu35 =>
              intro W hW
              have hb0 : Below W0.heap.size W0 W := bstep hR5 hW
              obtain ⟨_, x0, x1, x2, x3, b0, b1, b2, b3, d0', d1, d2, d3, yy⟩ := devs_held Q6.out QX6.out QF6.out HY0.out hb0
              have cvf := CF.out _ hb0
              have cv := hc5 _ hW
              go_simp
              exact rfl
            simp only [List.getElem_toArray, List.getElem_cons_succ, List.getElem_cons_zero, Act.put, List.setIfInBounds_toArray, List.set_cons_zero, List.set_cons_succ]
            refine but_take (f := 37) (i := 36) (v := ?vu36) rfl (by kernel_rfl) (by kernel_rfl) (by kernel_rfl) (by kernel_rfl) (by kernel_rfl) (fun _ _ _ h => h) (Or.inl ⟨((wanted_at rfl rfl rfl rfl).trans rfl), ?hyu36⟩) (Below.refl _ _) ?restu36
            case hyu36 =>
              intro W hW
              have hb0 : Below W0.heap.size W0 W := bstep hR5 hW
              obtain ⟨_, x0, x1, x2, x3, b0, b1, b2, b3, d0', d1, d2, d3, yy⟩ := devs_held Q6.out QX6.out QF6.out HY0.out hb0
              have cvf := CF.out _ hb0
              skip
              go_simp
              exact rfl
            simp only [List.getElem_toArray, List.getElem_cons_succ, List.getElem_cons_zero, Act.put, List.setIfInBounds_toArray, List.set_cons_zero, List.set_cons_succ]
            refine but_run (i := 37) (by kernel_rfl) rfl (by rfl) ?_
            simp only [List.getElem_toArray, List.getElem_cons_succ, List.getElem_cons_zero]
            intro K HK
            go_wp2_with fail
            refine HK.out _ V5 (fun h => absurd rfl h) ?_
            clear HK
            refine but_done (by kernel_rfl) ?_
            go_wp2_with fail
            go_meet
            exact ⟨rfl, Lib.hid hR5⟩
          case rest =>
            obtain ⟨rfl, HW⟩ := hcut
            go_wp2
            go_roundw
            case rel => exact ⟨k + 1, by omega, by go_num, HW⟩
            case measure => simp [intOf]; omega
      · have tz : decide ((k : Int) < (D.secs.length : Int)) = false := decide_eq_false (by omega)
        have hnf : n < fs.length := by rw [HFL.out]; exact hnl
        obtain ⟨h1, _, _, h4⟩ := HRD.out n hnl hnf
        rw [h4 rfl] at h1
        have HRN : Hid (∀ V, Below W0.heap.size W0 V → Calls Try.prog 20 #[.agg #[.slice A2 D.secs.length c2, .slice A3 cs.length c3, .int .i64 (-1), .bool false], .int .i64 (n : Int)] V (RdOut W0 bb V)) := Lib.hid (fun V hV => readOut hV (h1 ▸ implReadSec_any _ _ _ V (RX6.out.on hV) hsx.out))
        have HOK : Hid (∀ V, Below W0.heap.size W0 V → Calls Try.prog 21 #[.agg #[.slice A2 D.secs.length c2, .slice A3 cs.length c3, .int .i64 (-1), .bool false]] V fun r V' => r = .returned (.bool true) ∧ Below W0.heap.size W0 V' ∧ Below V.heap.size V V') := Lib.hid (fun V hV => (implDevOk_any _ _ V (RX6.out.on hV) hsx.out).mono (fun r V' h => ⟨by rw [h.1, OKX.out], bstep hV h.2, h.2⟩))
        have CB : Hid (∀ U, Below W0.heap.size W0 U → (convert 22 9 (.slice (some ⟨w3.heap.size, 0, none⟩) 2 2)).run Try.prog U = .ok (.string ⟨bb.toArray⟩) U) := Lib.hid (fun U hU => by
          have h := conv_rd (cap := 2) (RB6.out.on hU) (by omega)
          rw [hb2] at h
          exact h)
        have HY0 := Lib.hid (box4 Q6.out).1
        have hld : Below W0.heap.size W0 wr.drew := HBr.out.drew
        clear h1 h4 hb2
        go_upto_region 13 with (fail)
        have hR0 : Below W0.heap.size W0 wr.drew := hld
        refine but_begin (f := 17) (S := fun V => Below wr.drew.heap.size wr.drew V) (by kernel_rfl) ?_
        refine but_take (f := 17) (i := 0) (v := ?vz0) rfl (by kernel_rfl) (by kernel_rfl) (by kernel_rfl) (by kernel_rfl) (by kernel_rfl) (fun _ _ _ h => h) (Or.inl ⟨(by rfl), ?hyz0⟩) (Below.refl _ _) ?restz0
        case hyz0 =>
          intro W hW
          have hb0 : Below W0.heap.size W0 W := bstep hR0 hW
          obtain ⟨_, x0, x1, x2, x3, b0, b1, b2, b3, d0', d1, d2, d3, yy⟩ := devs_held Q6.out QX6.out QF6.out HY0.out hb0
          have cvb := CB.out _ hb0
          skip
          go_simp
          exact rfl
        simp only [List.getElem_toArray, List.getElem_cons_succ, List.getElem_cons_zero, Act.put, List.setIfInBounds_toArray, List.set_cons_zero, List.set_cons_succ]
        refine but_take (f := 17) (i := 1) (v := ?vz1) rfl (by kernel_rfl) (by kernel_rfl) (by kernel_rfl) (by kernel_rfl) (by kernel_rfl) (fun _ _ _ h => h) (Or.inl ⟨(by rfl), ?hyz1⟩) (Below.refl _ _) ?restz1
        case hyz1 =>
          intro W hW
          have hb0 : Below W0.heap.size W0 W := bstep hR0 hW
          obtain ⟨_, x0, x1, x2, x3, b0, b1, b2, b3, d0', d1, d2, d3, yy⟩ := devs_held Q6.out QX6.out QF6.out HY0.out hb0
          have cvb := CB.out _ hb0
          skip
          go_simp
          exact rfl
        simp only [List.getElem_toArray, List.getElem_cons_succ, List.getElem_cons_zero, Act.put, List.setIfInBounds_toArray, List.set_cons_zero, List.set_cons_succ]
        refine but_take (f := 17) (i := 4) (v := ?vz4) rfl (by kernel_rfl) (by kernel_rfl) (by kernel_rfl) (by kernel_rfl) (by kernel_rfl) (fun _ _ _ h => h) (Or.inl ⟨(by rfl), ?hyz4⟩) (Below.refl _ _) ?restz4
        case hyz4 =>
          intro W hW
          have hb0 : Below W0.heap.size W0 W := bstep hR0 hW
          obtain ⟨_, x0, x1, x2, x3, b0, b1, b2, b3, d0', d1, d2, d3, yy⟩ := devs_held Q6.out QX6.out QF6.out HY0.out hb0
          have cvb := CB.out _ hb0
          skip
          go_simp
          exact rfl
        simp only [List.getElem_toArray, List.getElem_cons_succ, List.getElem_cons_zero, Act.put, List.setIfInBounds_toArray, List.set_cons_zero, List.set_cons_succ]
        refine but_take (f := 17) (i := 5) (v := ?vz5) rfl (by kernel_rfl) (by kernel_rfl) (by kernel_rfl) (by kernel_rfl) (by kernel_rfl) (fun _ _ _ h => h) (Or.inl ⟨(by rfl), ?hyz5⟩) (Below.refl _ _) ?restz5
        case hyz5 =>
          intro W hW
          have hb0 : Below W0.heap.size W0 W := bstep hR0 hW
          obtain ⟨_, x0, x1, x2, x3, b0, b1, b2, b3, d0', d1, d2, d3, yy⟩ := devs_held Q6.out QX6.out QF6.out HY0.out hb0
          have cvb := CB.out _ hb0
          skip
          go_simp
          exact rfl
        simp only [List.getElem_toArray, List.getElem_cons_succ, List.getElem_cons_zero, Act.put, List.setIfInBounds_toArray, List.set_cons_zero, List.set_cons_succ]
        refine but_run (i := 2) (by kernel_rfl) rfl (by rfl) ?_
        simp only [List.getElem_toArray, List.getElem_cons_succ, List.getElem_cons_zero]
        intro K HK
        go_wp2_with fail
        refine (HRN.out _ hR0).mono ?_
        rintro r V1 ⟨A1', c1', rfl, hR1, hB1, hc1⟩
        go_wp2_with fail
        refine HK.out _ V1 (fun _ => hB1) ?_
        clear HK
        refine but_more (S' := fun V => Below V1.heap.size V1 V) (fun V h => bstep hB1 h) ?_
        refine but_take (f := 17) (i := 3) (v := ?vz3) rfl (by kernel_rfl) (by kernel_rfl) (by kernel_rfl) (by kernel_rfl) (by kernel_rfl) (fun _ _ _ h => h) (Or.inl ⟨(by rfl), ?hyz3⟩) (Below.refl _ _) ?restz3
        case hyz3 =>
          intro W hW
          have hb0 : Below W0.heap.size W0 W := bstep hR1 hW
          obtain ⟨_, x0, x1, x2, x3, b0, b1, b2, b3, d0', d1, d2, d3, yy⟩ := devs_held Q6.out QX6.out QF6.out HY0.out hb0
          have cvb := CB.out _ hb0
          have cv := hc1 _ hW
          go_simp
          exact rfl
        simp only [List.getElem_toArray, List.getElem_cons_succ, List.getElem_cons_zero, Act.put, List.setIfInBounds_toArray, List.set_cons_zero, List.set_cons_succ]
        refine but_take (f := 17) (i := 6) (v := ?vz6) rfl (by kernel_rfl) (by kernel_rfl) (by kernel_rfl) (by kernel_rfl) (by kernel_rfl) (fun _ _ _ h => h) (Or.inl ⟨(by rfl), ?hyz6⟩) (Below.refl _ _) ?restz6
        case hyz6 =>
          intro W hW
          have hb0 : Below W0.heap.size W0 W := bstep hR1 hW
          obtain ⟨_, x0, x1, x2, x3, b0, b1, b2, b3, d0', d1, d2, d3, yy⟩ := devs_held Q6.out QX6.out QF6.out HY0.out hb0
          have cvb := CB.out _ hb0
          skip
          go_simp
          exact rfl
        simp only [List.getElem_toArray, List.getElem_cons_succ, List.getElem_cons_zero, Act.put, List.setIfInBounds_toArray, List.set_cons_zero, List.set_cons_succ]
        refine but_take (f := 17) (i := 7) (v := ?vz7) rfl (by kernel_rfl) (by kernel_rfl) (by kernel_rfl) (by kernel_rfl) (by kernel_rfl) (fun _ _ _ h => h) (Or.inl ⟨(by rfl), ?hyz7⟩) (Below.refl _ _) ?restz7
        case hyz7 =>
          intro W hW
          have hb0 : Below W0.heap.size W0 W := bstep hR1 hW
          obtain ⟨_, x0, x1, x2, x3, b0, b1, b2, b3, d0', d1, d2, d3, yy⟩ := devs_held Q6.out QX6.out QF6.out HY0.out hb0
          have cvb := CB.out _ hb0
          skip
          go_simp
          exact rfl
        simp only [List.getElem_toArray, List.getElem_cons_succ, List.getElem_cons_zero, Act.put, List.setIfInBounds_toArray, List.set_cons_zero, List.set_cons_succ]
        refine but_take (f := 17) (i := 8) (v := ?vz8) rfl (by kernel_rfl) (by kernel_rfl) (by kernel_rfl) (by kernel_rfl) (by kernel_rfl) (fun _ _ _ h => h) (Or.inl ⟨((wanted_at rfl rfl rfl rfl).trans rfl), ?hyz8⟩) (Below.refl _ _) ?restz8
        case hyz8 =>
          intro W hW
          have hb0 : Below W0.heap.size W0 W := bstep hR1 hW
          obtain ⟨_, x0, x1, x2, x3, b0, b1, b2, b3, d0', d1, d2, d3, yy⟩ := devs_held Q6.out QX6.out QF6.out HY0.out hb0
          have cvb := CB.out _ hb0
          skip
          go_simp
          exact rfl
        simp only [List.getElem_toArray, List.getElem_cons_succ, List.getElem_cons_zero, Act.put, List.setIfInBounds_toArray, List.set_cons_zero, List.set_cons_succ]
        refine but_run (i := 9) (by kernel_rfl) rfl ((wanted_at rfl rfl rfl rfl).trans rfl) ?_
        simp only [List.getElem_toArray, List.getElem_cons_succ, List.getElem_cons_zero]
        intro K HK
        go_wp2_with fail
        refine (HOK.out _ hR1).mono ?_
        rintro r V2 ⟨rfl, hR2, hB2⟩
        go_wp2_with fail
        refine HK.out _ V2 (fun _ => hB2) ?_
        clear HK
        refine but_more (S' := fun V => Below V2.heap.size V2 V) (fun V h => bstep hB2 h) ?_
        refine but_take (f := 17) (i := 10) (v := ?vz10) rfl (by kernel_rfl) (by kernel_rfl) (by kernel_rfl) (by kernel_rfl) (by kernel_rfl) (fun _ _ _ h => h) (Or.inl ⟨(by rfl), ?hyz10⟩) (Below.refl _ _) ?restz10
        case hyz10 =>
          intro W hW
          have hb0 : Below W0.heap.size W0 W := bstep hR2 hW
          obtain ⟨_, x0, x1, x2, x3, b0, b1, b2, b3, d0', d1, d2, d3, yy⟩ := devs_held Q6.out QX6.out QF6.out HY0.out hb0
          have cvb := CB.out _ hb0
          skip
          go_simp
          exact rfl
        simp only [List.getElem_toArray, List.getElem_cons_succ, List.getElem_cons_zero, Act.put, List.setIfInBounds_toArray, List.set_cons_zero, List.set_cons_succ]
        refine but_take (f := 17) (i := 11) (v := ?vz11) rfl (by kernel_rfl) (by kernel_rfl) (by kernel_rfl) (by kernel_rfl) (by kernel_rfl) (fun _ _ _ h => h) (Or.inl ⟨(by rfl), ?hyz11⟩) (Below.refl _ _) ?restz11
        case hyz11 =>
          intro W hW
          have hb0 : Below W0.heap.size W0 W := bstep hR2 hW
          obtain ⟨_, x0, x1, x2, x3, b0, b1, b2, b3, d0', d1, d2, d3, yy⟩ := devs_held Q6.out QX6.out QF6.out HY0.out hb0
          have cvb := CB.out _ hb0
          skip
          go_simp
          exact rfl
        simp only [List.getElem_toArray, List.getElem_cons_succ, List.getElem_cons_zero, Act.put, List.setIfInBounds_toArray, List.set_cons_zero, List.set_cons_succ]
        refine but_take (f := 17) (i := 12) (v := ?vz12) rfl (by kernel_rfl) (by kernel_rfl) (by kernel_rfl) (by kernel_rfl) (by kernel_rfl) (fun _ _ _ h => h) (Or.inl ⟨((wanted_at rfl rfl rfl rfl).trans rfl), ?hyz12⟩) (Below.refl _ _) ?restz12
        case hyz12 =>
          intro W hW
          have hb0 : Below W0.heap.size W0 W := bstep hR2 hW
          obtain ⟨_, x0, x1, x2, x3, b0, b1, b2, b3, d0', d1, d2, d3, yy⟩ := devs_held Q6.out QX6.out QF6.out HY0.out hb0
          have cvb := CB.out _ hb0
          skip
          go_simp
          exact rfl
        simp only [List.getElem_toArray, List.getElem_cons_succ, List.getElem_cons_zero, Act.put, List.setIfInBounds_toArray, List.set_cons_zero, List.set_cons_succ]
        refine but_take (f := 17) (i := 13) (v := ?vz13) rfl (by kernel_rfl) (by kernel_rfl) (by kernel_rfl) (by kernel_rfl) (by kernel_rfl) (fun _ _ _ h => h) (Or.inl ⟨((wanted_at rfl rfl rfl rfl).trans rfl), ?hyz13⟩) (Below.refl _ _) ?restz13
        case hyz13 =>
          intro W hW
          have hb0 : Below W0.heap.size W0 W := bstep hR2 hW
          obtain ⟨_, x0, x1, x2, x3, b0, b1, b2, b3, d0', d1, d2, d3, yy⟩ := devs_held Q6.out QX6.out QF6.out HY0.out hb0
          have cvb := CB.out _ hb0
          skip
          go_simp
          exact rfl
        simp only [List.getElem_toArray, List.getElem_cons_succ, List.getElem_cons_zero, Act.put, List.setIfInBounds_toArray, List.set_cons_zero, List.set_cons_succ]
        refine but_take (f := 17) (i := 14) (v := ?vz14) rfl (by kernel_rfl) (by kernel_rfl) (by kernel_rfl) (by kernel_rfl) (by kernel_rfl) (fun _ _ _ h => h) (Or.inl ⟨((wanted_at rfl rfl rfl rfl).trans rfl), ?hyz14⟩) (Below.refl _ _) ?restz14
        case hyz14 =>
          intro W hW
          have hb0 : Below W0.heap.size W0 W := bstep hR2 hW
          obtain ⟨_, x0, x1, x2, x3, b0, b1, b2, b3, d0', d1, d2, d3, yy⟩ := devs_held Q6.out QX6.out QF6.out HY0.out hb0
          have cvb := CB.out _ hb0
          skip
          go_simp
          exact rfl
        simp only [List.getElem_toArray, List.getElem_cons_succ, List.getElem_cons_zero, Act.put, List.setIfInBounds_toArray, List.set_cons_zero, List.set_cons_succ]
        refine but_take (f := 17) (i := 15) (v := ?vz15) rfl (by kernel_rfl) (by kernel_rfl) (by kernel_rfl) (by kernel_rfl) (by kernel_rfl) (fun _ _ _ h => h) (Or.inl ⟨((wanted_at rfl rfl rfl rfl).trans rfl), ?hyz15⟩) (Below.refl _ _) ?restz15
        case hyz15 =>
          intro W hW
          have hb0 : Below W0.heap.size W0 W := bstep hR2 hW
          obtain ⟨_, x0, x1, x2, x3, b0, b1, b2, b3, d0', d1, d2, d3, yy⟩ := devs_held Q6.out QX6.out QF6.out HY0.out hb0
          have cvb := CB.out _ hb0
          skip
          go_simp
          exact rfl
        simp only [List.getElem_toArray, List.getElem_cons_succ, List.getElem_cons_zero, Act.put, List.setIfInBounds_toArray, List.set_cons_zero, List.set_cons_succ]
        refine but_take (f := 17) (i := 16) (v := ?vz16) rfl (by kernel_rfl) (by kernel_rfl) (by kernel_rfl) (by kernel_rfl) (by kernel_rfl) (fun _ _ _ h => h) (Or.inl ⟨(by rfl), ?hyz16⟩) (Below.refl _ _) ?restz16
        case hyz16 =>
          intro W hW
          have hb0 : Below W0.heap.size W0 W := bstep hR2 hW
          obtain ⟨_, x0, x1, x2, x3, b0, b1, b2, b3, d0', d1, d2, d3, yy⟩ := devs_held Q6.out QX6.out QF6.out HY0.out hb0
          have cvb := CB.out _ hb0
          skip
          go_simp
          exact rfl
        simp only [List.getElem_toArray, List.getElem_cons_succ, List.getElem_cons_zero, Act.put, List.setIfInBounds_toArray, List.set_cons_zero, List.set_cons_succ]
        refine but_run (i := 17) (by kernel_rfl) rfl (by rfl) ?_
        simp only [List.getElem_toArray, List.getElem_cons_succ, List.getElem_cons_zero]
        intro K HK
        go_wp2_with fail
        refine HK.out _ V2 (fun h => absurd rfl h) ?_
        clear HK
        refine but_done (by kernel_rfl) ?_
        go_wp2
        go_ret
        exact ⟨rfl, bstep HB6.out hR2⟩
  · have d0 : decide ((1048576 : Int) < (l.length : Int)) = true := decide_eq_true (by omega)
    go_enter Try.func3, Try.ntmps3
    go_wp2_with fail
    refine (big_any _ _ _ _).mono ?_
    rintro e w1 ⟨rfl, rfl⟩
    rw [d0]
    go_wp2
    go_ret
    exact ⟨rfl, Below.refl _ _⟩
end Go.Proofs.Ytkahjomkjhlkbaa
