/- Contracts for spec.SetPut and spec.MergeSets. Conditions: at most 2^21 keys. -/
import Derived.Test.YtmpgmjnagpiijaaKSetDrop
namespace Go.Proofs.Ytmpgmjnagpiijaa
open Go.RowKit
set_option maxRecDepth 100000
set_option linter.unusedSimpArgs false
set_option linter.unusedVariables false

theorem spotS (x y : KeyD) (w : World) : Calls Try.prog 124 #[x.v, y.v] w (SaysBool w (spotK x y)) := specSameSpot_any _ _ _ _ _ _ _ _ _ _ w
theorem five_box {w : World} {p : Nat} {x : KeyD} {t : TypeId} (h : w.heap[p]? = some (.cells #[.int .i64 x.a, .int .i64 x.b, .int .i64 x.c, .int .i64 x.d, .int .i64 x.e] t (0, 0))) : w.cell? ⟨p, 0, none⟩ = some (.int .i64 x.a) ∧ w.cell? ⟨p, 0 + 1, none⟩ = some (.int .i64 x.b) ∧ w.cell? ⟨p, 0 + 2, none⟩ = some (.int .i64 x.c) ∧ w.cell? ⟨p, 0 + 3, none⟩ = some (.int .i64 x.d) ∧ w.cell? ⟨p, 0 + 4, none⟩ = some (.int .i64 x.e) := by
  obtain ⟨h0, h1, h2, h3, h4, _⟩ := box5 h
  exact ⟨h0, h1, h2, h3, h4⟩
theorem Grow.on {W a b : World} {o : Value} {m : List KeyD} (h : Grow W a o m) (hb : Below a.heap.size a b) : Grow W b o m := ⟨h.1.on hb, h.2.trans (hb.mono h.2.size)⟩
theorem Grow.drewN {W a : World} {o : Value} {m : List KeyD} (h : Grow W a o m) (n : Nat) : Grow W (a.drewN n) o m := h.on (bdrew (Below.refl _ _) n)
theorem go_cons {l : List KeyD} {k : Nat} {x : KeyD} {d : Bool} (h : k < l.length) : putGo x (l.drop k) d = (if !d && !lessK l[k] x then [x] else []) ++ ((if !spotK l[k] x then [l[k]] else []) ++ putGo x (l.drop (k + 1)) (d || !lessK l[k] x)) := by
  rw [drop_at h]; rfl
set_option maxHeartbeats 2000000 in
theorem specSetPut_any (v : Value) (l : List KeyD) (x : KeyD) (w : World) (hv : Reads w w.heap.size v (keysD l)) (hn : l.length ≤ 2097152) : Calls Try.prog 117 #[v, x.v] w (NewK w (putK l x)) := by
  obtain ⟨A, c, rfl, _, _⟩ := hv.shapeK
  obtain ⟨R, hR⟩ : ∃ R, putK l x = R := ⟨_, rfl⟩
  rw [hR]
  unfold putK at hR
  have HLs := Lib.hid lessS
  have HSp := Lib.hid spotS
  unfold KeyD.v keyV at HLs HSp
  unfold KeyD.v keyV
  have b0 := bal1 w (.cells #[.int .i64 x.a, .int .i64 x.b, .int .i64 x.c, .int .i64 x.d, .int .i64 x.e] 75)
  have Q0 := Lib.hid (al1 w (.cells #[.int .i64 x.a, .int .i64 x.b, .int .i64 x.c, .int .i64 x.d, .int .i64 x.e] 75))
  have HB0 := Lib.hid b0
  have HV := Lib.hid (hv.on b0)
  have HR := Lib.hid hR
  clear hv hR b0
  go_enter Try.func117, Try.ntmps117
  go_upto_region 1 with (fail)
  have HZ0 : Hid ((w.alloc (.cells #[.int .i64 x.a, .int .i64 x.b, .int .i64 x.c, .int .i64 x.d, .int .i64 x.e] 75)).heap.size = w.heap.size + 1) := Lib.hid (by simp)
  generalize w.alloc (.cells #[.int .i64 x.a, .int .i64 x.b, .int .i64 x.c, .int .i64 x.d, .int .i64 x.e] 75) = W at *
  have START := Lib.hid (show Grow W (W.alloc (.cells #[] 75)) (.slice (some ⟨W.heap.size, 0, none⟩) 0 0) [] from ⟨RowK.lit W, bal1 _ _⟩)
  go_wp2
  go_loopw [5, 6, 7] (fun o d i wr => ∃ (k : Nat) (m : List KeyD) (db : Bool), k ≤ l.length ∧ i = .int .i64 k ∧ d = .bool db ∧ Hid (m.length ≤ k + db.toNat) ∧ Hid (m ++ putGo x (l.drop k) db = R) ∧ Hid (Grow W wr o m)) (fun _ _ i _ => l.length - (intOf i).toNat)
  case atStart => exact ⟨0, [], false, Nat.zero_le _, rfl, rfl, Lib.hid (Nat.zero_le _), Lib.hid HR.out, START⟩
  case round =>
    clear START
    obtain ⟨k, m, db, hk, rfl, rfl, HM, HI, HG⟩ := hrel
    obtain ⟨Ao, co, rfl, _, _⟩ := HG.out.1.shape
    by_cases hlt : k < l.length
    · have i1 : (k : Int) < (l.length : Int) := by omega
      have i2 : (0 : Int) ≤ (k : Int) := by omega
      have HI2 := Lib.hid (show m ++ ((if !db && !lessK l[k] x then [x] else []) ++ ((if !spotK l[k] x then [l[k]] else []) ++ putGo x (l.drop (k + 1)) (db || !lessK l[k] x))) = R by rw [← go_cons hlt]; exact HI.out)
      clear HI
      obtain ⟨b, off, rfl, hbW, hc⟩ := HV.out.keys hlt
      have FK : Hid (∀ wt, Below W.heap.size W wt → Five wt b (off + k * 5) l[k]) := Lib.hid (fun wt h => (hc k hlt).on hbW h)
      clear hc
      cases db
      · cases hl : lessK l[k] x
        all_goals
          have HL := Lib.hid hl
          clear hl
          rw [HL.out] at HI2
        · have F := Lib.hid (FK.out _ HG.out.2)
          have hbb := Nat.lt_of_lt_of_le hbW HG.out.2.size
          have P := Lib.hid (box_on Q0.out HG.out.2)
          obtain ⟨c0, c1, c2, c3, c4⟩ := F.out
          obtain ⟨y0, y1, y2, y3, y4, y5⟩ := box5 P.out
          go_wp2
          go_region_held3 (fun W => W.cell? ⟨b, off + k * 5, none⟩ = some (.int .i64 (l[k]).a) ∧ W.cell? ⟨b, off + k * 5 + 1, none⟩ = some (.int .i64 (l[k]).b) ∧ W.cell? ⟨b, off + k * 5 + 2, none⟩ = some (.int .i64 (l[k]).c) ∧ W.cell? ⟨b, off + k * 5 + 3, none⟩ = some (.int .i64 (l[k]).d) ∧ W.cell? ⟨b, off + k * 5 + 4, none⟩ = some (.int .i64 (l[k]).e) ∧ W.cell? ⟨w.heap.size, 0, none⟩ = some (.int .i64 (x).a) ∧ W.cell? ⟨w.heap.size, 0 + 1, none⟩ = some (.int .i64 (x).b) ∧ W.cell? ⟨w.heap.size, 0 + 2, none⟩ = some (.int .i64 (x).c) ∧ W.cell? ⟨w.heap.size, 0 + 3, none⟩ = some (.int .i64 (x).d) ∧ W.cell? ⟨w.heap.size, 0 + 4, none⟩ = some (.int .i64 (x).e))
            (first | with_reducible exact (F.out.on hbb B8).and (five_box (box_on P.out B8)) | with_reducible exact (F.out.on hbb (Below.drew1 _)).and (five_box (box_on P.out (Below.drew1 _))) | exact F.out.and (five_box P.out) | fail)
            (first
              | (go_at_call 123; refine (HLs.out _ _ _).mono ?_; rintro r w8 ⟨rfl, b8⟩; rw [HL.out]; have B8 := bstep (Below.drew1 _) b8)
              | fail)
          have HG1 := Lib.hid (HG.out.on B8)
          have P1 := box_on P.out B8
          clear B8 b8 c0 c1 c2 c3 c4 y0 y1 y2 y3 y4 y5 F P HG hbb
          obtain ⟨y0, y1, y2, y3, y4, y5⟩ := box5 P1
          clear P1
          have ba := bal1 w8 (.cells #[.int .i64 x.a, .int .i64 x.b, .int .i64 x.c, .int .i64 x.d, .int .i64 x.e] 75)
          have HRow := Lib.hid (HG1.out.on ba).1
          have HB := Lib.hid (HG1.out.on ba).2
          have HAt := Lib.hid (At.key w8 x 75)
          have HZ := Lib.hid HB.out.size
          clear ba HG1
          go_wp2_with (at_builtin; refine wpList_appK _ rfl (.tmp 26) (.tmp 28) rfl W.heap.size _ m rfl HRow.out (some ⟨w8.heap.size, 0, none⟩) 1 1 [x] rfl rfl HAt.out (by have := HM.out; simp at this ⊢; omega) HZ.out ?_; intro v1 wc o1 b1; clear HRow HAt y0 y1 y2 y3 y4 y5)
          have HG := Lib.hid (show Grow W wc v1 (m ++ [x]) from ⟨o1, HB.out.trans b1⟩)
          have HM2 := Lib.hid (show (m ++ [x]).length ≤ k + 1 by have := HM.out; simp at this ⊢; omega)
          clear o1 b1 HB HZ
          replace HI2 := Lib.hid (show (m ++ [x]) ++ ((if !spotK l[k] x then [l[k]] else []) ++ putGo x (l.drop (k + 1)) true) = R by have h := HI2.out; simpa using h)
          clear HM
          generalize m ++ [x] = m2 at *
          have HG2 := HG
          obtain ⟨Av, cv, rfl, _, _⟩ := HG.out.1.shape
          have F := Lib.hid (FK.out _ HG2.out.2)
          have hbb := Nat.lt_of_lt_of_le hbW HG2.out.2.size
          have P := Lib.hid (box_on Q0.out HG2.out.2)
          obtain ⟨c0, c1, c2, c3, c4⟩ := F.out
          obtain ⟨y0, y1, y2, y3, y4, y5⟩ := box5 P.out
          cases hs : spotK l[k] x
          all_goals
            have HS := Lib.hid hs
            clear hs
            rw [HS.out] at HI2
            go_region_held3 (fun W => W.cell? ⟨b, off + k * 5, none⟩ = some (.int .i64 (l[k]).a) ∧ W.cell? ⟨b, off + k * 5 + 1, none⟩ = some (.int .i64 (l[k]).b) ∧ W.cell? ⟨b, off + k * 5 + 2, none⟩ = some (.int .i64 (l[k]).c) ∧ W.cell? ⟨b, off + k * 5 + 3, none⟩ = some (.int .i64 (l[k]).d) ∧ W.cell? ⟨b, off + k * 5 + 4, none⟩ = some (.int .i64 (l[k]).e) ∧ W.cell? ⟨w.heap.size, 0, none⟩ = some (.int .i64 (x).a) ∧ W.cell? ⟨w.heap.size, 0 + 1, none⟩ = some (.int .i64 (x).b) ∧ W.cell? ⟨w.heap.size, 0 + 2, none⟩ = some (.int .i64 (x).c) ∧ W.cell? ⟨w.heap.size, 0 + 3, none⟩ = some (.int .i64 (x).d) ∧ W.cell? ⟨w.heap.size, 0 + 4, none⟩ = some (.int .i64 (x).e))
              (first | with_reducible exact (F.out.on hbb B8).and (five_box (box_on P.out B8)) | with_reducible exact (F.out.on hbb (Below.drew1 _)).and (five_box (box_on P.out (Below.drew1 _))) | exact F.out.and (five_box P.out) | fail)
              (first
                | (go_at_call 124; refine (HSp.out _ _ _).mono ?_; rintro r w8 ⟨rfl, b8⟩; rw [HS.out]; have B8 := bstep (Below.drew1 _) b8)
                | fail)
          · have HG3 := Lib.hid (HG2.out.on B8)
            have F3 := F.out.on hbb B8
            clear B8 b8 c0 c1 c2 c3 c4 y0 y1 y2 y3 y4 y5 F P
            obtain ⟨c0, c1, c2, c3, c4⟩ := F3
            have ba := bal1 w8 (.cells #[.int .i64 (l[k]).a, .int .i64 (l[k]).b, .int .i64 (l[k]).c, .int .i64 (l[k]).d, .int .i64 (l[k]).e] 75)
            have HRow := Lib.hid (HG3.out.on ba).1
            have HB := Lib.hid (HG3.out.on ba).2
            have HAt := Lib.hid (At.key w8 l[k] 75)
            have HZ := Lib.hid HB.out.size
            clear ba HG HG2 HG3
            go_wp2_with (at_builtin; refine wpList_appK _ rfl (.tmp 37) (.tmp 42) rfl W.heap.size _ m2 rfl HRow.out (some ⟨w8.heap.size, 0, none⟩) 1 1 [l[k]] rfl rfl HAt.out (by have := HM2.out; simp; omega) HZ.out ?_; intro v1 w9 o1 b1; clear HRow HAt)
            have HG4 := Lib.hid (show Grow W w9 v1 (m2 ++ [l[k]]) from ⟨o1, HB.out.trans b1⟩)
            clear o1 b1
            go_roundw
            case rel => exact ⟨k + 1, m2 ++ [l[k]], true, by omega, by go_num, rfl, Lib.hid (by have := HM2.out; simp at this ⊢; omega), Lib.hid (by have h := HI2.out; simpa using h), HG4⟩
            case measure => simp [intOf]; omega
          · have HG3 := Lib.hid (HG2.out.on B8)
            clear B8 b8 c0 c1 c2 c3 c4 y0 y1 y2 y3 y4 y5 F P HG HG2
            go_wp2
            go_roundw
            case rel => exact ⟨k + 1, m2, true, by omega, by go_num, rfl, Lib.hid (by have := HM2.out; simp at this ⊢; omega), Lib.hid (by have h := HI2.out; simpa using h), HG3⟩
            case measure => simp [intOf]; omega
        · have F := Lib.hid (FK.out _ HG.out.2)
          have hbb := Nat.lt_of_lt_of_le hbW HG.out.2.size
          have P := Lib.hid (box_on Q0.out HG.out.2)
          obtain ⟨c0, c1, c2, c3, c4⟩ := F.out
          obtain ⟨y0, y1, y2, y3, y4, y5⟩ := box5 P.out
          go_wp2
          go_region_held3 (fun W => W.cell? ⟨b, off + k * 5, none⟩ = some (.int .i64 (l[k]).a) ∧ W.cell? ⟨b, off + k * 5 + 1, none⟩ = some (.int .i64 (l[k]).b) ∧ W.cell? ⟨b, off + k * 5 + 2, none⟩ = some (.int .i64 (l[k]).c) ∧ W.cell? ⟨b, off + k * 5 + 3, none⟩ = some (.int .i64 (l[k]).d) ∧ W.cell? ⟨b, off + k * 5 + 4, none⟩ = some (.int .i64 (l[k]).e) ∧ W.cell? ⟨w.heap.size, 0, none⟩ = some (.int .i64 (x).a) ∧ W.cell? ⟨w.heap.size, 0 + 1, none⟩ = some (.int .i64 (x).b) ∧ W.cell? ⟨w.heap.size, 0 + 2, none⟩ = some (.int .i64 (x).c) ∧ W.cell? ⟨w.heap.size, 0 + 3, none⟩ = some (.int .i64 (x).d) ∧ W.cell? ⟨w.heap.size, 0 + 4, none⟩ = some (.int .i64 (x).e))
            (first | with_reducible exact (F.out.on hbb B8).and (five_box (box_on P.out B8)) | with_reducible exact (F.out.on hbb (Below.drew1 _)).and (five_box (box_on P.out (Below.drew1 _))) | exact F.out.and (five_box P.out) | fail)
            (first
              | (go_at_call 123; refine (HLs.out _ _ _).mono ?_; rintro r wc ⟨rfl, b8⟩; rw [HL.out]; have B8 := bstep (Below.drew1 _) b8)
              | fail)
          have HG2 := Lib.hid (HG.out.on B8)
          have HM2 := Lib.hid (show m.length ≤ k + 1 by have := HM.out; simp at this; omega)
          clear B8 b8 c0 c1 c2 c3 c4 y0 y1 y2 y3 y4 y5 F P hbb
          replace HI2 := Lib.hid (show m ++ ((if !spotK l[k] x then [l[k]] else []) ++ putGo x (l.drop (k + 1)) false) = R by have h := HI2.out; simpa using h)
          go_wp2
          have F := Lib.hid (FK.out _ HG2.out.2)
          have hbb := Nat.lt_of_lt_of_le hbW HG2.out.2.size
          have P := Lib.hid (box_on Q0.out HG2.out.2)
          obtain ⟨c0, c1, c2, c3, c4⟩ := F.out
          obtain ⟨y0, y1, y2, y3, y4, y5⟩ := box5 P.out
          cases hs : spotK l[k] x
          all_goals
            have HS := Lib.hid hs
            clear hs
            rw [HS.out] at HI2
            go_region_held3 (fun W => W.cell? ⟨b, off + k * 5, none⟩ = some (.int .i64 (l[k]).a) ∧ W.cell? ⟨b, off + k * 5 + 1, none⟩ = some (.int .i64 (l[k]).b) ∧ W.cell? ⟨b, off + k * 5 + 2, none⟩ = some (.int .i64 (l[k]).c) ∧ W.cell? ⟨b, off + k * 5 + 3, none⟩ = some (.int .i64 (l[k]).d) ∧ W.cell? ⟨b, off + k * 5 + 4, none⟩ = some (.int .i64 (l[k]).e) ∧ W.cell? ⟨w.heap.size, 0, none⟩ = some (.int .i64 (x).a) ∧ W.cell? ⟨w.heap.size, 0 + 1, none⟩ = some (.int .i64 (x).b) ∧ W.cell? ⟨w.heap.size, 0 + 2, none⟩ = some (.int .i64 (x).c) ∧ W.cell? ⟨w.heap.size, 0 + 3, none⟩ = some (.int .i64 (x).d) ∧ W.cell? ⟨w.heap.size, 0 + 4, none⟩ = some (.int .i64 (x).e))
              (first | with_reducible exact (F.out.on hbb B8).and (five_box (box_on P.out B8)) | with_reducible exact (F.out.on hbb (Below.drew1 _)).and (five_box (box_on P.out (Below.drew1 _))) | exact F.out.and (five_box P.out) | fail)
              (first
                | (go_at_call 124; refine (HSp.out _ _ _).mono ?_; rintro r w8 ⟨rfl, b8⟩; rw [HS.out]; have B8 := bstep (Below.drew1 _) b8)
                | fail)
          · have HG3 := Lib.hid (HG2.out.on B8)
            have F3 := F.out.on hbb B8
            clear B8 b8 c0 c1 c2 c3 c4 y0 y1 y2 y3 y4 y5 F P
            obtain ⟨c0, c1, c2, c3, c4⟩ := F3
            have ba := bal1 w8 (.cells #[.int .i64 (l[k]).a, .int .i64 (l[k]).b, .int .i64 (l[k]).c, .int .i64 (l[k]).d, .int .i64 (l[k]).e] 75)
            have HRow := Lib.hid (HG3.out.on ba).1
            have HB := Lib.hid (HG3.out.on ba).2
            have HAt := Lib.hid (At.key w8 l[k] 75)
            have HZ := Lib.hid HB.out.size
            clear ba HG HG2 HG3
            go_wp2_with (at_builtin; refine wpList_appK _ rfl (.tmp 37) (.tmp 42) rfl W.heap.size _ m rfl HRow.out (some ⟨w8.heap.size, 0, none⟩) 1 1 [l[k]] rfl rfl HAt.out (by have := HM2.out; simp; omega) HZ.out ?_; intro v1 w9 o1 b1; clear HRow HAt)
            have HG4 := Lib.hid (show Grow W w9 v1 (m ++ [l[k]]) from ⟨o1, HB.out.trans b1⟩)
            clear o1 b1
            go_roundw
            case rel => exact ⟨k + 1, m ++ [l[k]], false, by omega, by go_num, rfl, Lib.hid (by have := HM.out; simp at this ⊢; omega), Lib.hid (by have h := HI2.out; simpa using h), HG4⟩
            case measure => simp [intOf]; omega
          · have HG3 := Lib.hid (HG2.out.on B8)
            clear B8 b8 c0 c1 c2 c3 c4 y0 y1 y2 y3 y4 y5 F P HG HG2
            go_wp2
            go_roundw
            case rel => exact ⟨k + 1, m, false, by omega, by go_num, rfl, Lib.hid (by have := HM.out; simp at this ⊢; omega), Lib.hid (by have h := HI2.out; simpa using h), HG3⟩
            case measure => simp [intOf]; omega
      · have HGq : Hid (∀ n, Grow W (wr.drewN n) (.slice Ao m.length co) m) := Lib.hid (fun n => HG.out.drewN n)
        go_wp2
        go_quiet (fail)
        go_wp2
        generalize hwc : wr.drewN _ = wc
        have HG2 := Lib.hid (show Grow W wc (.slice Ao m.length co) m by rw [← hwc]; exact HGq.out _)
        have HM2 := Lib.hid (show m.length ≤ k + 1 by have := HM.out; simp at this; omega)
        clear hwc HGq
        replace HI2 := Lib.hid (show m ++ ((if !spotK l[k] x then [l[k]] else []) ++ putGo x (l.drop (k + 1)) true) = R by have h := HI2.out; simpa using h)
        have F := Lib.hid (FK.out _ HG2.out.2)
        have hbb := Nat.lt_of_lt_of_le hbW HG2.out.2.size
        have P := Lib.hid (box_on Q0.out HG2.out.2)
        obtain ⟨c0, c1, c2, c3, c4⟩ := F.out
        obtain ⟨y0, y1, y2, y3, y4, y5⟩ := box5 P.out
        cases hs : spotK l[k] x
        all_goals
          have HS := Lib.hid hs
          clear hs
          rw [HS.out] at HI2
          go_region_held3 (fun W => W.cell? ⟨b, off + k * 5, none⟩ = some (.int .i64 (l[k]).a) ∧ W.cell? ⟨b, off + k * 5 + 1, none⟩ = some (.int .i64 (l[k]).b) ∧ W.cell? ⟨b, off + k * 5 + 2, none⟩ = some (.int .i64 (l[k]).c) ∧ W.cell? ⟨b, off + k * 5 + 3, none⟩ = some (.int .i64 (l[k]).d) ∧ W.cell? ⟨b, off + k * 5 + 4, none⟩ = some (.int .i64 (l[k]).e) ∧ W.cell? ⟨w.heap.size, 0, none⟩ = some (.int .i64 (x).a) ∧ W.cell? ⟨w.heap.size, 0 + 1, none⟩ = some (.int .i64 (x).b) ∧ W.cell? ⟨w.heap.size, 0 + 2, none⟩ = some (.int .i64 (x).c) ∧ W.cell? ⟨w.heap.size, 0 + 3, none⟩ = some (.int .i64 (x).d) ∧ W.cell? ⟨w.heap.size, 0 + 4, none⟩ = some (.int .i64 (x).e))
            (first | with_reducible exact (F.out.on hbb B8).and (five_box (box_on P.out B8)) | with_reducible exact (F.out.on hbb (Below.drew1 _)).and (five_box (box_on P.out (Below.drew1 _))) | exact F.out.and (five_box P.out) | fail)
            (first
              | (go_at_call 124; refine (HSp.out _ _ _).mono ?_; rintro r w8 ⟨rfl, b8⟩; rw [HS.out]; have B8 := bstep (Below.drew1 _) b8)
              | fail)
        · have HG3 := Lib.hid (HG2.out.on B8)
          have F3 := F.out.on hbb B8
          clear B8 b8 c0 c1 c2 c3 c4 y0 y1 y2 y3 y4 y5 F P
          obtain ⟨c0, c1, c2, c3, c4⟩ := F3
          have ba := bal1 w8 (.cells #[.int .i64 (l[k]).a, .int .i64 (l[k]).b, .int .i64 (l[k]).c, .int .i64 (l[k]).d, .int .i64 (l[k]).e] 75)
          have HRow := Lib.hid (HG3.out.on ba).1
          have HB := Lib.hid (HG3.out.on ba).2
          have HAt := Lib.hid (At.key w8 l[k] 75)
          have HZ := Lib.hid HB.out.size
          clear ba HG HG2 HG3
          go_wp2_with (at_builtin; refine wpList_appK _ rfl (.tmp 37) (.tmp 42) rfl W.heap.size _ m rfl HRow.out (some ⟨w8.heap.size, 0, none⟩) 1 1 [l[k]] rfl rfl HAt.out (by have := HM2.out; simp; omega) HZ.out ?_; intro v1 w9 o1 b1; clear HRow HAt)
          have HG4 := Lib.hid (show Grow W w9 v1 (m ++ [l[k]]) from ⟨o1, HB.out.trans b1⟩)
          clear o1 b1
          go_roundw
          case rel => exact ⟨k + 1, m ++ [l[k]], true, by omega, by go_num, rfl, Lib.hid (by have := HM2.out; simp at this ⊢; omega), Lib.hid (by have h := HI2.out; simpa using h), HG4⟩
          case measure => simp [intOf]; omega
        · have HG3 := Lib.hid (HG2.out.on B8)
          clear B8 b8 c0 c1 c2 c3 c4 y0 y1 y2 y3 y4 y5 F P HG HG2
          go_wp2
          go_roundw
          case rel => exact ⟨k + 1, m, true, by omega, by go_num, rfl, Lib.hid (by have := HM2.out; simp at this ⊢; omega), Lib.hid (by have h := HI2.out; simpa using h), HG3⟩
          case measure => simp [intOf]; omega
    · have hI := HI.out
      rw [List.drop_eq_nil_of_le (by omega)] at hI
      cases db
      · have hI2 : m ++ [x] = R := hI
        subst hI2
        obtain ⟨y0, y1, y2, y3, y4, y5⟩ := box5 (box_on Q0.out HG.out.2)
        have ba := bal1 wr (.cells #[.int .i64 x.a, .int .i64 x.b, .int .i64 x.c, .int .i64 x.d, .int .i64 x.e] 75)
        have HRow := Lib.hid (HG.out.on ba).1
        have HB := Lib.hid (HG.out.on ba).2
        have HAt := Lib.hid (At.key wr x 75)
        have HZ := Lib.hid HB.out.size
        clear ba hI HI HG
        go_wp2_with (at_builtin; refine wpList_appK _ rfl (.tmp 46) (.tmp 48) rfl W.heap.size _ m rfl HRow.out (some ⟨wr.heap.size, 0, none⟩) 1 1 [x] rfl rfl HAt.out (by have := HM.out; simp at this ⊢; omega) HZ.out ?_; intro v1 wc o1 b1; clear HRow HAt y0 y1 y2 y3 y4 y5)
        go_ret
        exact ⟨_, rfl, o1.mono (by have := HZ0.out; omega), bstep HB0.out (HB.out.trans b1)⟩
      · have hI2 : m = R := by simpa [putGo] using hI
        subst hI2
        go_wp2
        go_ret
        exact ⟨_, rfl, HG.out.1.mono (by have := HZ0.out; omega), bstep HB0.out HG.out.2⟩
end Go.Proofs.Ytmpgmjnagpiijaa
