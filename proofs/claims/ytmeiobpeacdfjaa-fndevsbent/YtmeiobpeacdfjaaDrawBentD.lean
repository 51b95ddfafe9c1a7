/- Contracts of the draws of FnDevsBent: a device, valid or not, in memory of its own, and what else is drawn with it. Conditions: the code has at most 2^20 bytes. -/
import Derived.Test.YtmeiobpeacdfjaaDrawAny
namespace Go.Proofs.Ytmeiobpeacdfjaa
open Go.RowKit
set_option maxRecDepth 100000
set_option linter.unusedSimpArgs false
set_option linter.unusedVariables false

def DAny (w : World) (e : Ending) (w' : World) : Prop := ∃ v d, e = .returned v ∧ OwnDev w' (fun x => w.heap.size ≤ x) v d ∧ SmallD d ∧ Below w.heap.size w w'
def DAnyInt (w : World) (e : Ending) (w' : World) : Prop := ∃ v d x, e = .returned (.tuple #[v, .int .i64 x]) ∧ OwnDev w' (fun x => w.heap.size ≤ x) v d ∧ SmallD d ∧ Below w.heap.size w w'
def DAnyWr (w : World) (e : Ending) (w' : World) : Prop := ∃ v d x b l, e = .returned (.tuple #[v, .int .i64 x, b]) ∧ OwnDev w' (fun x => w.heap.size ≤ x) v d ∧ SmallD d ∧ Reads w' w'.heap.size b (bytesD l) ∧ l.length ≤ 81 ∧ Below w.heap.size w w'
def secList : List Int := [0, 0, 1, 2, -1, 60]
def keepList : List Int := [0, 1, 2, 3, 5, 10, 1073741823, -1, 1073741824]
theorem drawDevOk_any (A : Option Addr) (cap : Nat) (l : List UInt8) (w : World) (hr : Rd w w.heap.size A l) (hn : l.length ≤ 1048576) : Calls Try.prog 12 #[.slice A l.length cap] w (DAny w) := by
  have q0 := al1 w (.cells #[.slice none 0 0, .slice none 0 0, .int .i64 0, .bool false] 27)
  go_enter Try.func12, Try.ntmps12
  go_wp2_with fail
  refine (l1New_any _ _ l _ (hr.on (bal1 _ _)) hn).mono ?_
  rintro e w1 ⟨p, rfl, c1, hp, b1⟩
  have hb1 := bstep (bal1 _ _) b1
  have q1 := box_on q0 b1
  have hz1 := b1.size
  simp only [World.size_alloc] at hp hz1
  clear b1 q0
  go_wp2_with fail
  refine (l2Any_any p _ c1).mono ?_
  rintro e w2 ⟨v, d, rfl, o2, d2, c2, g2⟩
  obtain ⟨A0, c0, A1, c1', rfl⟩ := o2.rd.shape
  have hb2 : Below w.heap.size w w2 := hb1.trans (g2.below hb1.size (fun x hx => by omega))
  obtain ⟨x0, x1, x2, x3, x4⟩ := box4 (box_only q1 g2 (by omega))
  have m0 : Mid w.heap.size (w.heap.size + 1) w.heap.size := .mk (by omega) (by omega)
  have OD := Lib.hid (o2.mono (T := fun x => w.heap.size + 1 ≤ x) (fun b hb => by omega))
  have HB := Lib.hid hb2
  have D2 := Lib.hid d2
  clear q1 g2 hb1 hb2 o2 d2 c2
  go_wp2
  refine bodyPost_ret (v := .agg #[.slice A0 d.secs.length c0, .slice A1 d.cache.length c1', .int .i64 d.fuse, .bool d.down]) (by simp [results, Try.results12, go_sem, *]) rfl ⟨_, d, rfl, ?_, D2.out, ?_⟩
  · exact OD.out.past (a := w.heap.size) (b := w.heap.size + 1) (((((Only.refl _ _).setCell m0 _).setCell m0 _).setCell m0 _).setCell m0 _) (by omega)
  · exact bpast (b := w.heap.size + 1) HB.out (((((Only.refl _ _).setCell m0 _).setCell m0 _).setCell m0 _).setCell m0 _)
theorem drawFlushDev_any (A : Option Addr) (cap : Nat) (l : List UInt8) (w : World) (hr : Rd w w.heap.size A l) (hn : l.length ≤ 1048576) : Calls Try.prog 15 #[.slice A l.length cap] w (DAny w) := by
  have q0 := al1 w (.cells #[.slice none 0 0, .slice none 0 0, .int .i64 0, .bool false] 27)
  go_enter Try.func15, Try.ntmps15
  go_wp2_with fail
  refine (l1New_any _ _ l _ (hr.on (bal1 _ _)) hn).mono ?_
  rintro e w1 ⟨p, rfl, c1, hp, b1⟩
  have hb1 := bstep (bal1 _ _) b1
  have q1 := box_on q0 b1
  have hz1 := b1.size
  simp only [World.size_alloc] at hp hz1
  clear b1 q0
  go_wp2_with fail
  refine (l2Any_any p _ c1).mono ?_
  rintro e w2 ⟨v, d, rfl, o2, d2, c2, g2⟩
  obtain ⟨A0, c0, A1, c1', rfl⟩ := o2.rd.shape
  have hb2 : Below w.heap.size w w2 := hb1.trans (g2.below hb1.size (fun x hx => by omega))
  obtain ⟨x0, x1, x2, x3, x4⟩ := box4 (box_only q1 g2 (by omega))
  have m0 : Mid w.heap.size (w.heap.size + 1) w.heap.size := .mk (by omega) (by omega)
  have OD := Lib.hid (o2.mono (T := fun x => w.heap.size + 1 ≤ x) (fun b hb => by omega))
  have HB := Lib.hid hb2
  have D2 := Lib.hid d2
  clear q1 g2 hb1 hb2 o2 d2 c2
  go_wp2
  refine bodyPost_ret (v := .agg #[.slice A0 d.secs.length c0, .slice A1 d.cache.length c1', .int .i64 d.fuse, .bool d.down]) (by simp [results, Try.results15, go_sem, *]) rfl ⟨_, d, rfl, ?_, D2.out, ?_⟩
  · exact OD.out.past (a := w.heap.size) (b := w.heap.size + 1) (((((Only.refl _ _).setCell m0 _).setCell m0 _).setCell m0 _).setCell m0 _) (by omega)
  · exact bpast (b := w.heap.size + 1) HB.out (((((Only.refl _ _).setCell m0 _).setCell m0 _).setCell m0 _).setCell m0 _)
set_option maxHeartbeats 1000000 in
theorem drawReadSec_any (A : Option Addr) (cap : Nat) (l : List UInt8) (w : World) (hr : Rd w w.heap.size A l) (hn : l.length ≤ 1048576) : Calls Try.prog 13 #[.slice A l.length cap] w (DAnyInt w) := by
  have q0 := al1 w (.cells #[.slice none 0 0, .slice none 0 0, .int .i64 0, .bool false] 27)
  go_enter Try.func13, Try.ntmps13
  go_wp2_with fail
  refine (l1New_any _ _ l _ (hr.on (bal1 _ _)) hn).mono ?_
  rintro e w1 ⟨p, rfl, c1, hp, b1⟩
  have hb1 := bstep (bal1 _ _) b1
  have q1 := box_on q0 b1
  have hz1 := b1.size
  simp only [World.size_alloc] at hp hz1
  clear b1 q0
  have hpl := c1.lt
  go_wp2_with fail
  refine (l2Any_any p _ c1).mono ?_
  rintro e w2 ⟨v, d, rfl, o2, d2, c2, g2⟩
  obtain ⟨A0, c0, A1, c1', rfl⟩ := o2.rd.shape
  have hz2 := g2.size
  have hb2 : Below w.heap.size w w2 := hb1.trans (g2.below hb1.size (fun x hx => by omega))
  have q2 := box_only q1 g2 (by omega)
  have H := Lib.hid (l1Int_any p w2.heap.size 6 secList (w2.alloc (.cells (secList.map (.int .i64 ·)).toArray 3)) (c2.alloc _) (Lies.new w2 _ _) (by simp) (by omega) (by decide) (by decide))
  have O2 := Only.of_below (bal1 w2 (.cells (secList.map (.int .i64 ·)).toArray 3)) (fun x => x = p)
  have OD2 := Lib.hid o2
  have HB2 := Lib.hid hb2
  have D2 := Lib.hid d2
  clear c1 c2 g2 q1 o2 hb2 d2 hb1
  go_wp2_with fail
  refine H.out.mono ?_
  rintro r w3 ⟨x, hx, rfl, c3, g3⟩
  have O3 := O2.trans (only_of g3)
  have hb3 : Below w.heap.size w w3 := HB2.out.trans (O3.below HB2.out.size (fun x hx => by omega))
  obtain ⟨x0, x1, x2, x3, x4⟩ := box4 (box_only q2 O3 (by omega))
  have m0 : Mid w.heap.size (w.heap.size + 1) w.heap.size := .mk (by omega) (by omega)
  have OD := Lib.hid ((OD2.out.far O3 (fun b hb _ hb' => by omega)).mono (T := fun x => w.heap.size + 1 ≤ x) (fun b hb => by omega))
  have HB := Lib.hid hb3
  clear H hx c3 g3 O2 O3 hb3 q2 OD2 HB2
  go_wp2
  refine bodyPost_ret (v := .tuple #[.agg #[.slice A0 d.secs.length c0, .slice A1 d.cache.length c1', .int .i64 d.fuse, .bool d.down], .int .i64 x]) (by simp [results, Try.results13, go_sem, *]) rfl ⟨_, d, x, rfl, ?_, D2.out, ?_⟩
  · exact OD.out.past (a := w.heap.size) (b := w.heap.size + 1) (((((Only.refl _ _).setCell m0 _).setCell m0 _).setCell m0 _).setCell m0 _) (by omega)
  · exact bpast (b := w.heap.size + 1) HB.out (((((Only.refl _ _).setCell m0 _).setCell m0 _).setCell m0 _).setCell m0 _)
set_option maxHeartbeats 1000000 in
theorem drawFallDev_any (A : Option Addr) (cap : Nat) (l : List UInt8) (w : World) (hr : Rd w w.heap.size A l) (hn : l.length ≤ 1048576) : Calls Try.prog 16 #[.slice A l.length cap] w (DAnyInt w) := by
  have q0 := al1 w (.cells #[.slice none 0 0, .slice none 0 0, .int .i64 0, .bool false] 27)
  go_enter Try.func16, Try.ntmps16
  go_wp2_with fail
  refine (l1New_any _ _ l _ (hr.on (bal1 _ _)) hn).mono ?_
  rintro e w1 ⟨p, rfl, c1, hp, b1⟩
  have hb1 := bstep (bal1 _ _) b1
  have q1 := box_on q0 b1
  have hz1 := b1.size
  simp only [World.size_alloc] at hp hz1
  clear b1 q0
  have hpl := c1.lt
  go_wp2_with fail
  refine (l2Any_any p _ c1).mono ?_
  rintro e w2 ⟨v, d, rfl, o2, d2, c2, g2⟩
  obtain ⟨A0, c0, A1, c1', rfl⟩ := o2.rd.shape
  have hz2 := g2.size
  have hb2 : Below w.heap.size w w2 := hb1.trans (g2.below hb1.size (fun x hx => by omega))
  have q2 := box_only q1 g2 (by omega)
  have H := Lib.hid (l1Int_any p w2.heap.size 9 keepList (w2.alloc (.cells (keepList.map (.int .i64 ·)).toArray 3)) (c2.alloc _) (Lies.new w2 _ _) (by simp) (by omega) (by decide) (by decide))
  have O2 := Only.of_below (bal1 w2 (.cells (keepList.map (.int .i64 ·)).toArray 3)) (fun x => x = p)
  have OD2 := Lib.hid o2
  have HB2 := Lib.hid hb2
  have D2 := Lib.hid d2
  clear c1 c2 g2 q1 o2 hb2 d2 hb1
  go_wp2_with fail
  refine H.out.mono ?_
  rintro r w3 ⟨x, hx, rfl, c3, g3⟩
  have O3 := O2.trans (only_of g3)
  have hb3 : Below w.heap.size w w3 := HB2.out.trans (O3.below HB2.out.size (fun x hx => by omega))
  obtain ⟨x0, x1, x2, x3, x4⟩ := box4 (box_only q2 O3 (by omega))
  have m0 : Mid w.heap.size (w.heap.size + 1) w.heap.size := .mk (by omega) (by omega)
  have OD := Lib.hid ((OD2.out.far O3 (fun b hb _ hb' => by omega)).mono (T := fun x => w.heap.size + 1 ≤ x) (fun b hb => by omega))
  have HB := Lib.hid hb3
  clear H hx c3 g3 O2 O3 hb3 q2 OD2 HB2
  go_wp2
  refine bodyPost_ret (v := .tuple #[.agg #[.slice A0 d.secs.length c0, .slice A1 d.cache.length c1', .int .i64 d.fuse, .bool d.down], .int .i64 x]) (by simp [results, Try.results16, go_sem, *]) rfl ⟨_, d, x, rfl, ?_, D2.out, ?_⟩
  · exact OD.out.past (a := w.heap.size) (b := w.heap.size + 1) (((((Only.refl _ _).setCell m0 _).setCell m0 _).setCell m0 _).setCell m0 _) (by omega)
  · exact bpast (b := w.heap.size + 1) HB.out (((((Only.refl _ _).setCell m0 _).setCell m0 _).setCell m0 _).setCell m0 _)
set_option maxHeartbeats 1000000 in
theorem drawWriteSec_any (A : Option Addr) (cap : Nat) (l : List UInt8) (w : World) (hr : Rd w w.heap.size A l) (hn : l.length ≤ 1048576) : Calls Try.prog 14 #[.slice A l.length cap] w (DAnyWr w) := by
  have q0 := al1 w (.cells #[.slice none 0 0, .slice none 0 0, .int .i64 0, .bool false] 27)
  go_enter Try.func14, Try.ntmps14
  go_wp2_with fail
  refine (l1New_any _ _ l _ (hr.on (bal1 _ _)) hn).mono ?_
  rintro e w1 ⟨p, rfl, c1, hp, b1⟩
  have hb1 := bstep (bal1 _ _) b1
  have q1 := box_on q0 b1
  have hz1 := b1.size
  simp only [World.size_alloc] at hp hz1
  clear b1 q0
  have hpl := c1.lt
  go_wp2_with fail
  refine (l1Below_any p 5 _ c1 (by omega) (by omega)).mono ?_
  rintro e wa ⟨ja, hja, rfl, ca, ga⟩
  have hza := ga.size
  go_wp2_with fail
  refine (l1Bytes_any p ja _ ca (by omega)).mono ?_
  rintro e wb ⟨gb, vb, lb, rfl, ob, hlb, hgb, cb, gb'⟩
  have hzb := gb'.size
  have hll : lb.length ≤ 81 := by omega
  have Ob := (only_of ga).trans (only_of gb')
  obtain ⟨cc, rfl, _, _⟩ := ob.rd
  clear c1 ga ca gb' hlb
  go_wp2_with fail
  refine (l1Once_any p 10 _ cb (by omega) (by omega)).mono ?_
  rintro e wc ⟨y, rfl, cc', gc⟩
  have hzc := gc.size
  have Oc := Ob.trans (only_of gc)
  have hob := (ob.owns (S := fun x => x = gb) rfl).far (only_of gc) (fun b hb _ hb' => by omega)
  have hgl := ob.lt
  clear cb gc ob Ob
  go_upto_if 14 with (fail)
  go_cut [6] (fun s6 W => ∃ lu gu, lu.length ≤ 81 ∧ Hid (Owns W (fun x => x = gu) s6 (bytesD lu)) ∧ w1.heap.size ≤ gu ∧ gu < W.heap.size ∧ Hid (Cur W p) ∧ Hid (Only (fun x => x = p) w1 W))
  case first =>
    have OB := Lib.hid hob
    have HC := Lib.hid cc'
    have OC := Lib.hid Oc
    clear hob cc' Oc
    cases y
    · go_wp2
      go_meet
      exact ⟨lb, gb, hll, OB, by omega, by omega, HC, OC⟩
    · go_wp2_with fail
      refine (l1Below_any p 2 _ HC.out (by omega) (by omega)).mono ?_
      rintro r wd ⟨j2, hj2, rfl, cd, gd⟩
      have hzd := gd.size
      have i5 : IntKind.i64.wrap (80 + (j2 : Int)) = 80 + (j2 : Int) := by rw [IntKind.wrap_i64]; omega
      have hmk : ∀ w, (Instr.makeSlice 22 (.int .i64 (80 + (j2 : Int))) (.int .i64 (80 + (j2 : Int)))).run Try.prog w = .ok (.slice (some ⟨w.heap.size, 0, none⟩) (80 + j2) (80 + j2)) (w.alloc (.cells (madeCells #[.int .u8 0] (80 + j2)) 5)) := fun w => by
        have h := run_makeBytes (80 + j2) (by omega) w
        rw [show ((80 + j2 : Nat) : Int) = 80 + (j2 : Int) by omega] at h
        exact h
      have FIN : Hid (Owns (wd.alloc (.cells (madeCells #[.int .u8 0] (80 + j2)) 5)) (fun x => x = wd.heap.size) (.slice (some ⟨wd.heap.size, 0, none⟩) (80 + j2) (80 + j2)) (bytesD (List.replicate (80 + j2) 0))) := Lib.hid ((Own.zeros wd (80 + j2) (by omega)).owns rfl)
      have HCD := Lib.hid (cd.alloc (.cells (madeCells #[.int .u8 0] (80 + j2)) 5))
      have OCD := Lib.hid ((OC.out.trans (only_of gd)).trans (Only.of_below (bal1 wd (.cells (madeCells #[.int .u8 0] (80 + j2)) 5)) _))
      clear cd gd OB HC OC
      go_wp2
      go_meet
      exact ⟨List.replicate (80 + j2) 0, wd.heap.size, by simp; omega, FIN, by omega, by simp, HCD, OCD⟩
  case rest =>
    obtain ⟨lu, gu, hlu, OU, hg1, hg2, HC, OC⟩ := hcut
    obtain ⟨W, rfl⟩ : ∃ W, W = wc := ⟨_, rfl⟩
    obtain ⟨Au, cu, rfl, _, _, _⟩ := OU.out.reads.bytes
    have hz2 := OC.out.size
    have q2 := box_only q1 OC.out (by omega)
    have hb1' := Lib.hid hb1
    clear q1 hb1
    go_wp2_with fail
    refine (l2Any_any p _ HC.out).mono ?_
    rintro e w2 ⟨v, d, rfl, o2, d2, c2, g2⟩
    obtain ⟨A0, c0, A1, c1', rfl⟩ := o2.rd.shape
    have hz3 := g2.size
    have O2 := OC.out.trans g2
    have hb2 : Below w.heap.size w w2 := hb1'.out.trans (O2.below hb1'.out.size (fun x hx => by omega))
    have q3 := box_only q2 g2 (by omega)
    have H := Lib.hid (l1Int_any p w2.heap.size 6 secList (w2.alloc (.cells (secList.map (.int .i64 ·)).toArray 3)) (c2.alloc _) (Lies.new w2 _ _) (by simp) (by omega) (by decide) (by decide))
    have O3 := Only.of_below (bal1 w2 (.cells (secList.map (.int .i64 ·)).toArray 3)) (fun x => x = p)
    have OD2 := Lib.hid o2
    have HB2 := Lib.hid hb2
    have D2 := Lib.hid d2
    have OU2 := Lib.hid (OU.out.far g2 (fun b hb _ hb' => by omega))
    clear c2 g2 q2 o2 hb2 d2 OU OC O2 HC hb1'
    go_wp2_with fail
    refine H.out.mono ?_
    rintro r w3 ⟨x, hx, rfl, c3, g3⟩
    have O4 := O3.trans (only_of g3)
    have hb3 : Below w.heap.size w w3 := HB2.out.trans (O4.below HB2.out.size (fun x hx => by omega))
    obtain ⟨x0, x1, x2, x3, x4⟩ := box4 (box_only q3 O4 (by omega))
    have m0 : Mid w.heap.size (w.heap.size + 1) w.heap.size := .mk (by omega) (by omega)
    have OD := Lib.hid ((OD2.out.far O4 (fun b hb _ hb' => by omega)).mono (T := fun x => w.heap.size + 1 ≤ x) (fun b hb => by omega))
    have OU3 := Lib.hid (OU2.out.far O4 (fun b hb _ hb' => by omega))
    have HB := Lib.hid hb3
    clear H hx c3 g3 O3 O4 hb3 q3 OD2 HB2 OU2
    go_wp2
    have ON : Only (fun b => b = w.heap.size) w3 ((((w3.setCell ⟨w.heap.size, 0, none⟩ (.slice A0 d.secs.length c0)).setCell ⟨w.heap.size, 1, none⟩ (.slice A1 d.cache.length c1')).setCell ⟨w.heap.size, 2, none⟩ (.int .i64 d.fuse)).setCell ⟨w.heap.size, 3, none⟩ (.bool d.down)) := ((((Only.refl (fun b => b = w.heap.size) w3).setCell rfl _).setCell rfl _).setCell rfl _).setCell rfl _
    refine bodyPost_ret (v := .tuple #[.agg #[.slice A0 d.secs.length c0, .slice A1 d.cache.length c1', .int .i64 d.fuse, .bool d.down], .int .i64 x, .slice Au lu.length cu]) (by simp [results, Try.results14, go_sem, *]) rfl ⟨_, d, x, _, lu, rfl, ?_, D2.out, ?_, hlu, ?_⟩
    · exact OD.out.past (a := w.heap.size) (b := w.heap.size + 1) (((((Only.refl _ _).setCell m0 _).setCell m0 _).setCell m0 _).setCell m0 _) (by omega)
    · exact (OU3.out.far ON (fun b hb _ hb' => by omega)).reads
    · exact bpast (b := w.heap.size + 1) HB.out (((((Only.refl _ _).setCell m0 _).setCell m0 _).setCell m0 _).setCell m0 _)
end Go.Proofs.Ytmeiobpeacdfjaa
