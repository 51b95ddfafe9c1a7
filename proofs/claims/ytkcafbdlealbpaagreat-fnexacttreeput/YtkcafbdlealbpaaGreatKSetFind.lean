/- Contracts for the generic sorted set at keys: its methods find and placeOf; impl.SetAt and impl.SetOk. Conditions: at most 2^21 keys. -/
import Derived.Test.YtkcafbdlealbpaaGreatKSetImpl
namespace Go.Proofs.YtkcafbdlealbpaaGreat
open Go.RowKit
set_option maxRecDepth 100000
set_option linter.unusedSimpArgs false
set_option linter.unusedVariables false

def zK : KeyD := ⟨0, 0, 0, 0, 0⟩
def SaysFind (w : World) (o : Option KeyD) (e : Ending) (w' : World) : Prop := e = .returned (.tuple #[(o.getD zK).v, .bool o.isSome]) ∧ Below w.heap.size w w'
theorem find_step {l : List KeyD} {k : Nat} {p : KeyD → Bool} (h : k < l.length) (hp : p l[k] = false) (hf : (l.drop k).find? p = l.find? p) : (l.drop (k + 1)).find? p = l.find? p := by
  rw [drop_at h, List.find?_cons, hp] at hf
  exact hf
theorem find_hit {l : List KeyD} {k : Nat} {p : KeyD → Bool} (h : k < l.length) (hp : p l[k] = true) (hf : (l.drop k).find? p = l.find? p) : l.find? p = some l[k] := by
  rw [drop_at h, List.find?_cons, hp] at hf
  exact hf.symm
theorem below_keep3 {w W w' : World} {p : Nat} {o : Obj} (q : W.heap[p]? = some o) (h : Below W.heap.size W w') : w'.heap[p]? = some o := box_on q h
theorem b5' {B : Nat} {w w1 : World} {g : Nat} {u1 u2 u3 u4 u5 : Value} (h : Below B w w1) (hg : B ≤ g) : Below B w (((((w1.setCell ⟨g, 0, none⟩ u1).setCell ⟨g, 1, none⟩ u2).setCell ⟨g, 2, none⟩ u3).setCell ⟨g, 3, none⟩ u4).setCell ⟨g, 4, none⟩ u5) :=
  ((((h.setCell (p := ⟨g, 0, none⟩) hg _).setCell (p := ⟨g, 1, none⟩) hg _).setCell (p := ⟨g, 2, none⟩) hg _).setCell (p := ⟨g, 3, none⟩) hg _).setCell (p := ⟨g, 4, none⟩) hg _
set_option maxHeartbeats 2000000 in
theorem find_any (v : Value) (l : List KeyD) (x : KeyD) (w : World) (hv : Reads w w.heap.size v (keysD l)) (hn : l.length ≤ 2097152) : Calls Tryz.prog 153 #[.agg #[v, lessV], x.v] w (SaysFind w (l.find? (fun y => spotK x y))) := by
  obtain ⟨A, c, rfl, _, _⟩ := hv.shapeK
  have HT := Lib.hid (same_any A l.length c x)
  unfold KeyD.v keyV lessV at HT
  unfold KeyD.v keyV lessV
  generalize hF : l.find? (fun y => spotK x y) = F
  obtain ⟨q0, q1, q2⟩ := al3 w (.cells #[.slice A l.length c, .func (.func 15) #[] #[]] 139) (.cells #[.int .i64 x.a, .int .i64 x.b, .int .i64 x.c, .int .i64 x.d, .int .i64 x.e] 29) (.cells #[.int .i64 0, .int .i64 0, .int .i64 0, .int .i64 0, .int .i64 0] 29)
  have b0 := bal3 w (.cells #[.slice A l.length c, .func (.func 15) #[] #[]] 139) (.cells #[.int .i64 x.a, .int .i64 x.b, .int .i64 x.c, .int .i64 x.d, .int .i64 x.e] 29) (.cells #[.int .i64 0, .int .i64 0, .int .i64 0, .int .i64 0, .int .i64 0] 29)
  have Q0 := Lib.hid q0
  have Q1 := Lib.hid q1
  have Q2 := Lib.hid q2
  have HB := Lib.hid b0
  have HV := Lib.hid (hv.on b0)
  have HF := Lib.hid hF
  have hz : (((w.alloc (.cells #[.slice A l.length c, .func (.func 15) #[] #[]] 139)).alloc (.cells #[.int .i64 x.a, .int .i64 x.b, .int .i64 x.c, .int .i64 x.d, .int .i64 x.e] 29)).alloc (.cells #[.int .i64 0, .int .i64 0, .int .i64 0, .int .i64 0, .int .i64 0] 29)).heap.size = w.heap.size + 3 := by simp
  have HZ := Lib.hid hz
  clear hv b0 q0 q1 q2 hF hz
  go_enter Tryz.func153, Tryz.ntmps153
  go_wp2
  generalize ((w.alloc (.cells #[.slice A l.length c, .func (.func 15) #[] #[]] 139)).alloc (.cells #[.int .i64 x.a, .int .i64 x.b, .int .i64 x.c, .int .i64 x.d, .int .i64 x.e] 29)).alloc (.cells #[.int .i64 0, .int .i64 0, .int .i64 0, .int .i64 0, .int .i64 0] 29) = W at *
  go_loopw [7, 12] (fun _ i wr => ∃ k : Nat, k ≤ l.length ∧ i = .int .i64 k ∧ Hid ((l.drop k).find? (fun y => spotK x y) = l.find? (fun y => spotK x y)) ∧ Hid (Below W.heap.size W wr)) (fun _ i _ => l.length - (intOf i).toNat)
  case atStart => exact ⟨0, Nat.zero_le _, rfl, Lib.hid rfl, Lib.hid (Below.refl _ _)⟩
  case round =>
    obtain ⟨k, hk, rfl, HI, HW⟩ := hrel
    have hzW := HZ.out
    have hzr := HW.out.size
    by_cases hlt : k < l.length
    · obtain ⟨b, off, rfl, hbb, hc⟩ := (HV.out.on HW.out).keys hlt
      have i1 : (k : Int) < (l.length : Int) := by omega
      have i2 : (0 : Int) ≤ (k : Int) := by omega
      obtain ⟨c0, c1, c2, c3, c4⟩ := hc k hlt
      have ba := bal1 wr (.cells #[.int .i64 (l[k]).a, .int .i64 (l[k]).b, .int .i64 (l[k]).c, .int .i64 (l[k]).d, .int .i64 (l[k]).e] 29)
      have BA := Lib.hid (HW.out.trans (ba.mono hzr))
      have P0 := Lib.hid (box_on Q0.out BA.out)
      have P1 := Lib.hid (box_on Q1.out BA.out)
      have P2 := Lib.hid (box_on Q2.out BA.out)
      have P3 := Lib.hid (al1 wr (.cells #[.int .i64 (l[k]).a, .int .i64 (l[k]).b, .int .i64 (l[k]).c, .int .i64 (l[k]).d, .int .i64 (l[k]).e] 29))
      obtain ⟨x0, x1, x2⟩ := box2 P0.out
      obtain ⟨y0, y1, y2, y3, y4, y5⟩ := box5 P1.out
      clear hc ba
      cases hs : spotK x l[k]
      all_goals
        have HS := Lib.hid hs
        clear hs
        go_wp2_with fail
        refine (HT.out l[k] _).mono ?_
        rintro r w1 ⟨rfl, b1⟩
        rw [HS.out]
        have B1 := Lib.hid (BA.out.trans (b1.mono BA.out.size))
        obtain ⟨z0, z1, z2, z3, z4, z5⟩ := box5 (box_on P2.out b1)
        obtain ⟨u0, u1, u2, u3, u4, u5⟩ := box5 (box_on P3.out b1)
        have hne : ¬ wr.heap.size = w.heap.size + 1 + 1 := by omega
        clear c0 c1 c2 c3 c4 x0 x1 x2 y0 y1 y2 y3 y4 y5 b1
        go_wp2
        first
          | go_roundw
            case rel => exact ⟨k + 1, by omega, by go_num, Lib.hid (find_step hlt HS.out HI.out), B1⟩
            case measure => simp [intOf]; omega
          | have hF : F = some l[k] := by rw [← HF.out]; exact find_hit hlt HS.out HI.out
            refine bodyPost_ret (v := .tuple #[(F.getD zK).v, .bool F.isSome]) (by simp [results, Tryz.results153, go_sem, keyV, KeyD.v, hF, *]) rfl ⟨rfl, ?_⟩
            exact b5' (bstep HB.out B1.out) (by omega)
    · have BA := Lib.hid (HW.out.trans ((bal1 wr (.cells #[.int .i64 0, .int .i64 0, .int .i64 0, .int .i64 0, .int .i64 0] 29)).mono hzr))
      obtain ⟨z0, z1, z2, z3, z4, z5⟩ := box5 (box_on Q2.out BA.out)
      have hne : ¬ wr.heap.size = w.heap.size + 1 + 1 := by omega
      go_wp2
      have hF : F = none := by
        rw [← HF.out, ← HI.out, List.drop_eq_nil_of_le (by omega)]
        rfl
      refine bodyPost_ret (v := .tuple #[(F.getD zK).v, .bool F.isSome]) (by simp [results, Tryz.results153, go_sem, keyV, KeyD.v, hF, zK, *]) rfl ⟨rfl, ?_⟩
      exact b5' (bstep HB.out BA.out) (by omega)
theorem spot_flip (b a : Int) : (fun y : KeyD => spotK ⟨b, a, 0, 0, 0⟩ y) = (fun y => spotB y.a y.b b a) := by
  funext y
  exact spot_comm ⟨b, a, 0, 0, 0⟩ y
set_option maxHeartbeats 1000000 in
theorem implSetAt_any (v : Value) (l : List KeyD) (b a : Int) (w : World) (hv : Reads w w.heap.size v (keysD l)) (hn : l.length ≤ 2097152) : Calls Tryz.prog 151 #[v, .int .i64 b, .int .i64 a] w (SaysFind w (atK l b a)) := by
  obtain ⟨A, c, rfl, _, _⟩ := hv.shapeK
  have HF := Lib.hid (fun w => find_any (.slice A l.length c) l ⟨b, a, 0, 0, 0⟩ w)
  rw [spot_flip] at HF
  change Hid (∀ w, _ → _ → Calls Tryz.prog _ _ w (SaysFind w (atK l b a))) at HF
  have HK := Lib.hid (keySet_any A l.length c)
  unfold SaysFind KeyD.v keyV lessV at HF
  unfold lessV at HK
  unfold SaysFind KeyD.v keyV
  generalize atK l b a = F at *
  have q0 := Lib.hid (al1 w (.cells #[.int .i64 0, .int .i64 0, .int .i64 0, .int .i64 0, .int .i64 0] 29))
  have B0 := Lib.hid (bal1 w (.cells #[.int .i64 0, .int .i64 0, .int .i64 0, .int .i64 0, .int .i64 0] 29))
  have HV := Lib.hid hv
  clear hv
  go_enter Tryz.func151, Tryz.ntmps151
  go_wp2_with fail
  refine (HK.out _).mono ?_
  rintro r w1 ⟨rfl, b1⟩
  have Q1 := Lib.hid (box_on q0.out b1)
  have B1 := Lib.hid (bstep B0.out b1)
  clear b1 q0 B0
  go_wp2_with fail
  refine (HF.out _ (HV.out.on B1.out) hn).mono ?_
  rintro r w2 ⟨rfl, b2⟩
  have B2 := Lib.hid (bstep B1.out b2)
  obtain ⟨z0, z1, z2, z3, z4, z5⟩ := box5 (box_on Q1.out b2)
  clear b2 B1 Q1
  go_wp2
  refine bodyPost_ret (v := .tuple #[(F.getD zK).v, .bool F.isSome]) (by simp [results, Tryz.results151, go_sem, keyV, KeyD.v, *]) rfl ⟨rfl, ?_⟩
  exact b5' B2.out (Nat.le_refl _)
end Go.Proofs.YtkcafbdlealbpaaGreat
