/- The contract of spec.WriteSec. Conditions: no slice holds more than 2^20 elements. -/
import Derived.Test.YtmeiobpeacdfjaaDevSCopy
namespace Go.Proofs.Ytmeiobpeacdfjaa
open Go.RowKit
set_option maxRecDepth 100000
set_option linter.unusedSimpArgs false
set_option linter.unusedVariables false

set_option maxHeartbeats 2000000 in
theorem specWriteSec_any (v b : Value) (d : DevD) (n : Int) (l : List UInt8) (w : World) (hv : RdDev w w.heap.size v d) (hl : Reads w w.heap.size b (bytesD l)) (hs : SmallD d) (hll : l.length ≤ 1048576) :
    Calls Try.prog 24 #[v, .int .i64 n, b] w (NewDev w (writeD d n l)) := by
  have HL := Lib.hid hl
  obtain ⟨Ab, cb, rfl, _, _, _⟩ := hl.bytes
  clear hl
  have HV := Lib.hid hv
  have HS := Lib.hid hs
  obtain ⟨A0, c0, A1, c1, rfl⟩ := hv.shape
  obtain ⟨q0, q1⟩ := al2 w (.cells #[.slice A0 d.secs.length c0, .slice A1 d.cache.length c1, .int .i64 d.fuse, .bool d.down] 27) (.cells #[.slice none 0 0, .slice none 0 0, .int .i64 0, .bool false] 27)
  clear hv hs
  go_enter Try.func24, Try.ntmps24
  go_wp2_with fail
  refine (l2Copy_any _ d _ (HV.out.on (bal2 _ _ _)) HS.out).mono ?_
  rintro e w1 ⟨x, rfl, o1, b1⟩
  have hb1 := bstep (bal2 _ _ _) b1
  have hz1 := b1.size
  simp only [World.size_alloc] at hz1 o1
  obtain ⟨A2, c2, A3, c3, rfl⟩ := o1.rd.shape
  have P1 : Hid (PDev (w1.alloc (.cells #[.slice A2 d.secs.length c2, .slice A3 d.cache.length c3, .int .i64 d.fuse, .bool d.down] 27)) w1.heap.size (fun b => w.heap.size + 1 + 1 ≤ b ∧ b < w1.heap.size) d) := Lib.hid ⟨_, _, _, _, al1 _ _, o1.lt.on (bal1 _ _), fun h => by have := h.2; omega⟩
  have Q1 := Lib.hid (box_on (box_on q1 b1) (bal1 w1 (.cells #[.slice A2 d.secs.length c2, .slice A3 d.cache.length c3, .int .i64 d.fuse, .bool d.down] 27)))
  have HB1 := Lib.hid (bstep hb1 (bal1 w1 (.cells #[.slice A2 d.secs.length c2, .slice A3 d.cache.length c3, .int .i64 d.fuse, .bool d.down] 27)))
  have RD := Lib.hid (HV.out.on HB1.out)
  obtain ⟨x0, x1, x2, x3, x4⟩ := box4 (box_on q0 b1)
  have hzz : w.heap.size + 1 < w1.heap.size := by omega
  have hza : w.heap.size < w1.heap.size := by omega
  clear q0 q1 b1 hb1 o1
  go_wp2_with fail
  refine (specDevOk_any _ d _ RD.out HS.out).mono ?_
  rintro e w2 ⟨rfl, b2⟩
  have HB2 := Lib.hid (bstep HB1.out b2)
  have Q2 := Lib.hid (box_on Q1.out b2)
  have P2 : Hid (PDev w2 w1.heap.size (fun b => w.heap.size + 1 + 1 ≤ b ∧ b < w1.heap.size) d) := Lib.hid (by obtain ⟨a, b, c, dd, h1, h2, h3⟩ := P1.out; exact ⟨a, b, c, dd, box_on h1 b2, h2.on b2, h3⟩)
  have hz2 := b2.size
  simp only [World.size_alloc] at hz2
  clear x0 x1 x2 x3 x4 Q1 P1 b2 RD HB1
  cases hok : okD d
  · have HN := Lib.hid (writeD_no (d := d) (n := n) (l := l) (fun h => by have := h.1; rw [hok] at this; cases this))
    obtain ⟨B0, e0, B1, e1, qp, od, hp⟩ := P2.out
    obtain ⟨x0, x1, x2, x3, x4⟩ := box4 qp
    obtain ⟨y0, y1, y2, y3, y4⟩ := box4 Q2.out
    have OD := Lib.hid od
    have m1 : Mid w.heap.size (w.heap.size + 2) (w.heap.size + 1) := .mk (by omega) (by omega)
    have n1 : ¬ w.heap.size + 1 = w1.heap.size := by omega
    clear qp od hp P2 Q2
    go_wp2
    refine bodyPost_ret (v := .agg #[.slice B0 d.secs.length e0, .slice B1 d.cache.length e1, .int .i64 d.fuse, .bool d.down]) (by simp [results, Try.results24, go_sem, *]) rfl ⟨_, rfl, ?_, bpast (b := w.heap.size + 2) HB2.out ?_⟩
    · rw [HN.out]
      refine (OD.out.far (T := Mid w.heap.size (w.heap.size + 2)) ?_ (fun b hb _ hb' => by have := hb.1; have := hb'.2; omega)).mono (fun b hb => by have := hb.1; omega)
      exact ((((Only.refl _ _).setCell m1 _).setCell m1 _).setCell m1 _).setCell m1 _
    · exact ((((Only.refl _ _).setCell m1 _).setCell m1 _).setCell m1 _).setCell m1 _
  · go_wp2_with fail
    refine (l2Write_any w1.heap.size n _ d l _ _ P2.out hok (fun w' ho => HL.out.on (HB2.out.trans (ho.below HB2.out.size (fun b hb => by have h : b = w1.heap.size := hb; omega)))) hll).mono ?_
    rintro e w3 ⟨rfl, p3, g3⟩
    have HB3 := Lib.hid (HB2.out.trans (g3.below HB2.out.size (fun b hb => by have h : b = w1.heap.size ∨ (w.heap.size + 1 + 1 ≤ b ∧ b < w1.heap.size) := hb; omega)))
    have Q3 := box_only Q2.out g3 (fun hb => by have h : w.heap.size + 1 = w1.heap.size ∨ (w.heap.size + 1 + 1 ≤ w.heap.size + 1 ∧ w.heap.size + 1 < w1.heap.size) := hb; omega)
    obtain ⟨B0, e0, B1, e1, qp, od, hp⟩ := p3
    obtain ⟨x0, x1, x2, x3, x4⟩ := box4 qp
    obtain ⟨y0, y1, y2, y3, y4⟩ := box4 Q3
    have OD := Lib.hid od
    have m1 : Mid w.heap.size (w.heap.size + 2) (w.heap.size + 1) := .mk (by omega) (by omega)
    have n1 : ¬ w.heap.size + 1 = w1.heap.size := by omega
    clear qp od hp P2 Q2 Q3 g3
    generalize writeD d n l = D at *
    go_wp2
    refine bodyPost_ret (v := .agg #[.slice B0 D.secs.length e0, .slice B1 D.cache.length e1, .int .i64 D.fuse, .bool D.down]) (by simp [results, Try.results24, go_sem, *]) rfl ⟨_, rfl, ?_, bpast (b := w.heap.size + 2) HB3.out ?_⟩
    · refine (OD.out.far (T := Mid w.heap.size (w.heap.size + 2)) ?_ (fun b hb _ hb' => by have h : (w.heap.size + 1 + 1 ≤ b ∧ b < w1.heap.size) ∨ w2.heap.size ≤ b := hb; have := hb'.2; omega)).mono (fun b hb => by have h : (w.heap.size + 1 + 1 ≤ b ∧ b < w1.heap.size) ∨ w2.heap.size ≤ b := hb; omega)
      exact ((((Only.refl _ _).setCell m1 _).setCell m1 _).setCell m1 _).setCell m1 _
    · exact ((((Only.refl _ _).setCell m1 _).setCell m1 _).setCell m1 _).setCell m1 _
end Go.Proofs.Ytmeiobpeacdfjaa
