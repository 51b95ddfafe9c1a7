/- The contract of impl.copyDev: a new device in new memory that reads alike. Conditions: no slice holds more than 2^20 elements. -/
import Derived.Test.YtmeiobpeacdfjaaAppV
import Derived.Test.YtmeiobpeacdfjaaDevTo
import Derived.Deep.RegionHeld3
namespace Go.Proofs.Ytmeiobpeacdfjaa
open Go.RowKit
set_option maxRecDepth 100000
set_option linter.unusedSimpArgs false
set_option linter.unusedVariables false

def Dat.one : Dat → Bool
  | .lit u => u.oneCell'
  | .row _ _ _ _ => true
theorem Reads.one {w : World} {B : Nat} {v : Value} {c : Dat} (h : Reads w B v c) (hc : c.one = true) : v.oneCell' = true := by
  cases h with
  | lit u => exact hc
  | nil A cap e z h => rfl
  | row b off n cap e z xs cs hb hn hc hl hx hcell hr => rfl
theorem ReadsL.ones {w : World} {B : Nat} {vs : List Value} {cs : List Dat} (h : ReadsL w B vs cs) (hc : ∀ c ∈ cs, c.one = true) : ∀ u ∈ vs, u.oneCell' = true := by
  intro u hu
  obtain ⟨i, hi, rfl⟩ := List.getElem_of_mem hu
  exact (h.2 i hi (by rw [← h.1]; exact hi)).one (hc _ (List.getElem_mem _))
theorem Reads.cells {w : World} {B : Nat} {A : Option Addr} {n m c : Nat} {e z : Nat} {cs : List Dat} (h : Reads w B (.slice A m c) (.row e z n cs)) : ∃ xs, At w A xs ∧ ReadsL w B xs cs ∧ xs.length = n * z := by
  obtain ⟨A', cap', hv, hn, hc, hl, _, k⟩ := h.row'
  cases hv
  rcases k with rfl | ⟨b, off, xs, rfl, hb, hx, hcell, hr⟩
  · exact ⟨[], .inl rfl, ⟨rfl, fun i h => by simp at h⟩, by simpa using hl⟩
  · exact ⟨xs, .inr ⟨b, off, rfl, hcell⟩, ⟨hx, hr⟩, hx.trans hl⟩
/-- A cell of a row of the call's own is written. -/
theorem row_set {w : World} {base e z n g cap : Nat} {xs : List Value} (h : w.ownsRow base e z (.slice (some ⟨g, 0, none⟩) n cap) n xs) (i : Nat) (x : Value) : (w.setCell ⟨g, i, none⟩ x).ownsRow base e z (.slice (some ⟨g, 0, none⟩) n cap) n (xs.set i x) := by
  rcases row_cases h with ⟨hv, _⟩ | ⟨g', cap', hv, hb, hR, hn, hc, hl⟩
  · cases hv
  · cases hv
    exact (hR.set i x).row hb hn hc (by simpa using hl)
theorem own_push {wr w1 : World} {T : Nat → Prop} {base g j : Nat} {xs : List Value} {cs : List Dat} {v u : Value} {c : Dat} (h : OwnsL wr T xs cs) (hT1 : ∀ b, base ≤ b → b ≠ g → T b) (hT2 : ∀ b, T b → b ≠ g) (hb : Below wr.heap.size wr w1) (hv : Owns w1 (fun b => wr.heap.size ≤ b) v c) (hg : g < wr.heap.size) (hbase : base ≤ wr.heap.size) :
    OwnsL (w1.setCell ⟨g, j, none⟩ u) T (xs ++ [v]) (cs ++ [c]) := by
  have h1 : OwnsL w1 (fun b => T b ∧ b < wr.heap.size) xs cs := h.lt.on hb
  have h2 := h1.snoc hv (U := T) (fun b hb => hb.1) (fun b hb => hT1 b (by omega) (by omega)) (fun b hb hb' => by have := hb.2; omega)
  exact h2.keep (fun b hb _ => Below.heap_setCell _ _ _ _ (by simpa using hT2 b hb))
theorem take_set_succ {α : Type} (xs : List α) (k : Nat) (x : α) (h : k < xs.length) : (xs.set k x).take (k + 1) = xs.take k ++ [x] := by
  rw [List.take_succ_eq_append_getElem (by simpa using h)]
  simp [List.take_set_of_le]
/-- The blocks of a row's cells: made by the call, and not the row's own. -/
def Tof (base : Nat) (u : Value) : Nat → Prop := fun b => base ≤ b ∧ u.ownBlock ≠ some b
def CopyIn (w : World) (base : Nat) (p : Nat) (bx : Obj) (u : Value) (e z n k : Nat) (xs : List Value) (cs : List Dat) (wr : World) : Prop :=
  ∃ ys : List Value, wr.ownsRow base e z u n ys ∧ OwnsL wr (Tof base u) (ys.take k) (cs.take k) ∧ (∀ j, k ≤ j → ys[j]? = xs[j]?) ∧ wr.heap[p]? = some bx ∧ Below w.heap.size w wr
theorem CopyIn.step {w wr w2 : World} {base p g cap : Nat} {bx : Obj} {e n k : Nat} {xs zs : List Value} {cs : List Dat} {x : Value} {c : Dat} (ho : wr.ownsRow base e 1 (.slice (some ⟨g, 0, none⟩) n cap) n zs) (hown : OwnsL wr (Tof base (.slice (some ⟨g, 0, none⟩) n cap)) (zs.take k) (cs.take k)) (ht : ∀ j, k ≤ j → zs[j]? = xs[j]?) (hbx : wr.heap[p]? = some bx) (hb : Below w.heap.size w wr)
    (b2 : Below wr.heap.size wr w2) (ox : Owns w2 (fun b => wr.heap.size ≤ b) x c) (hg : g < wr.heap.size) (hbase : base ≤ g) (hp : p ≠ g) (hwg : w.heap.size ≤ g) (hkn : k < n) (hk : k < cs.length) (hc : cs[k] = c) :
    CopyIn w base p bx (.slice (some ⟨g, 0, none⟩) n cap) e 1 n (k + 1) xs cs (w2.setCell ⟨g, k, none⟩ x) := by
  have hzl : zs.length = n * 1 := ho.1
  refine ⟨zs.set k x, row_set (row_on ho b2) k x, ?_, ?_, box_far (box_on hbx b2) hp, (hb.trans (b2.mono hb.size)).setCell hwg x⟩
  · rw [take_set_succ zs k x (by omega), List.take_succ_eq_append_getElem hk, hc]
    refine own_push (base := base) hown (fun b h1 h2 => ⟨h1, fun h => h2 (by simp [Value.ownBlock] at h; exact h.symm)⟩) (fun b h1 h2 => h1.2 (by rw [h2]; rfl)) b2 ox hg (by omega)
  · intro j hj
    rw [List.getElem?_set_ne (by omega)]
    exact ht j (by omega)
theorem CopyIn.step2 {w wr w2 : World} {base p g cap : Nat} {bx : Obj} {e n k : Nat} {xs zs : List Value} {cs : List Dat} {x y : Value} {c : Dat} (ho : wr.ownsRow base e 2 (.slice (some ⟨g, 0, none⟩) n cap) n zs) (hown : OwnsL wr (Tof base (.slice (some ⟨g, 0, none⟩) n cap)) (zs.take (k * 2)) (cs.take (k * 2))) (ht : ∀ j, k * 2 ≤ j → zs[j]? = xs[j]?) (hbx : wr.heap[p]? = some bx) (hb : Below w.heap.size w wr)
    (b2 : Below wr.heap.size wr w2) (ox : Owns w2 (fun b => wr.heap.size ≤ b) x c) (hg : g < wr.heap.size) (hbase : base ≤ g) (hp : p ≠ g) (hwg : w.heap.size ≤ g) (hkn : k < n) (hy : xs[k * 2]? = some y) (hk : k * 2 + 1 < cs.length) (hc0 : cs[k * 2] = .lit y) (hc : cs[k * 2 + 1] = c) :
    CopyIn w base p bx (.slice (some ⟨g, 0, none⟩) n cap) e 2 n ((k + 1) * 2) xs cs (w2.setCell ⟨g, k * 2 + 1, none⟩ x) := by
  have hzl : zs.length = n * 2 := ho.1
  refine ⟨zs.set (k * 2 + 1) x, row_set (row_on ho b2) _ x, ?_, ?_, box_far (box_on hbx b2) hp, (hb.trans (b2.mono hb.size)).setCell hwg x⟩
  · rw [show (k + 1) * 2 = k * 2 + 1 + 1 by omega, take_set_succ zs (k * 2 + 1) x (by omega), List.take_succ_eq_append_getElem hk, hc, List.take_succ_eq_append_getElem (l := zs) (by omega), List.take_succ_eq_append_getElem (l := cs) (by omega), hc0]
    have hzy : zs[k * 2] = y := by
      have := ht (k * 2) (Nat.le_refl _)
      rw [List.getElem?_eq_getElem (by omega), hy] at this
      exact Option.some.inj this
    rw [hzy]
    have h1 : OwnsL wr (Tof base (.slice (some ⟨g, 0, none⟩) n cap)) (zs.take (k * 2) ++ [y]) (cs.take (k * 2) ++ [.lit y]) := hown.snoc (T := fun _ => False) (.lit _ _) (fun _ h => h) (fun _ h => h.elim) (fun _ _ h => h)
    exact own_push (base := base) h1 (fun b h1 h2 => ⟨h1, fun h => h2 (by simp [Value.ownBlock] at h; exact h.symm)⟩) (fun b h1 h2 => h1.2 (by rw [h2]; rfl)) b2 ox hg (by omega)
  · intro j hj
    rw [List.getElem?_set_ne (by omega)]
    exact ht j (by omega)
theorem cache_get0 (ps : List (Int × List UInt8)) (i : Nat) (hi : i < ps.length) : (ps.flatMap wrC)[i * 2]'(by rw [cache_len]; omega) = .lit (.int .i64 (ps[i]).1) := by
  have h := flat_get wrC 2 ps wrC_len i 0 hi (by omega)
  rw [Nat.add_zero, List.getElem?_eq_getElem (by rw [cache_len]; omega)] at h
  simpa [wrC] using h
theorem cache_get' (ps : List (Int × List UInt8)) (i : Nat) (hi : i < ps.length) : (ps.flatMap wrC)[i * 2 + 1]'(by rw [cache_len]; omega) = bytesD (ps[i]).2 := by
  have h := flat_get wrC 2 ps wrC_len i 1 hi (by omega)
  rw [List.getElem?_eq_getElem (by rw [cache_len]; omega)] at h
  simpa [wrC] using h
set_option maxHeartbeats 2000000 in
theorem copyDev_any (v : Value) (d : DevD) (w : World) (hv : RdDev w w.heap.size v d) (hs : SmallD d) : Calls Try.prog 65 #[v] w (NewDev w d) := by
  obtain ⟨v0, v1, rfl, hv0, hv1⟩ := hv
  obtain ⟨s1, s2, s3, s4⟩ := hs
  have S3 := Lib.hid s3
  have S4 := Lib.hid s4
  obtain ⟨A0, d0, e0, _, _⟩ := hv0.len
  obtain ⟨A1, d1, e1, _, _⟩ := hv1.len
  subst e0 e1
  obtain ⟨xs, hat, hrs, hxl⟩ := hv0.cells
  obtain ⟨ys, hat1, hrs1, hxl1⟩ := hv1.cells
  have X0 := Lib.hid hrs
  have Y0 := Lib.hid hrs1
  have Y1 := Lib.hid hat1
  have HXL := Lib.hid hxl
  have HYL := Lib.hid hxl1
  have ones : ∀ u ∈ xs, u.oneCell' = true := hrs.ones (fun c hc => by simp at hc; obtain ⟨l, _, rfl⟩ := hc; rfl)
  have ones1 := Lib.hid (hrs1.ones (fun c hc => by simp [wrC] at hc; obtain ⟨a, b, _, h⟩ := hc; rcases h with rfl | rfl <;> rfl))
  obtain ⟨q0, q1⟩ := al2 w (.cells #[.slice A0 d.secs.length d0, .slice A1 d.cache.length d1, .int .i64 d.fuse, .bool d.down] 27) (.cells #[.slice none 0 0, .slice none 0 0, .int .i64 0, .bool false] 27)
  have Q0 := Lib.hid q0
  have Q1 := Lib.hid q1
  clear s3 s4 hv0 hv1 hrs hrs1 hat1 hxl hxl1 q0 q1
  go_enter Try.func65, Try.ntmps65
  go_wp2_with fail
  refine (cloneSS_any A0 d.secs.length d0 xs _ (hat.on (bal2 _ _ _)) HXL.out ones s1).mono ?_
  rintro e w1 ⟨u, rfl, ho1, b1⟩
  have hb1 := bstep (bal2 _ _ _) b1
  have q0 := box_on Q0.out b1
  have q1 := box_on Q1.out b1
  have hz := b1.size
  simp only [World.size_alloc] at hz ho1
  have H1 : u.oneCell' = true := by
    rcases row_cases ho1 with ⟨rfl, _⟩ | ⟨g, cap, rfl, _⟩ <;> rfl
  obtain ⟨Au, cu, rfl⟩ : ∃ Au cu, u = .slice Au d.secs.length cu := by
    rcases row_cases ho1 with ⟨rfl, h, _⟩ | ⟨g, cap, rfl, _⟩
    · exact ⟨none, 0, by rw [h]⟩
    · exact ⟨_, cap, rfl⟩
  clear b1 ones hat H1
  obtain ⟨x0, x1, x2, x3, x4⟩ := box4 q0
  have q0' := box_set (i := 0) (u := .slice Au d.secs.length cu) q0
  have q1' := box_far (j := 0) (u := .slice Au d.secs.length cu) q1 (show w.heap.size + 1 ≠ w.heap.size by omega)
  have ho2 : (w1.setCell ⟨w.heap.size, 0, none⟩ (.slice Au d.secs.length cu)).ownsRow (w.heap.size + 1 + 1) 22 1 (.slice Au d.secs.length cu) d.secs.length xs := row_keep ho1 (fun g hg => Below.heap_setCell _ _ _ _ (by have := (row_lt ho1 g hg).2; simp; omega))
  have hb2 := hb1.setCell (p := ⟨w.heap.size, 0, none⟩) (Nat.le_refl _) (.slice Au d.secs.length cu)
  have HO2 := Lib.hid ho2
  have HQ0 := Lib.hid q0'
  have HQ1 := Lib.hid q1'
  have HB2 := Lib.hid hb2
  clear q0 q1 q0' q1' ho1 ho2 hb1 hb2
  have REL1 : Hid (CopyIn w (w.heap.size + 1 + 1) w.heap.size (.cells #[.slice Au d.secs.length cu, .slice A1 d.cache.length d1, .int .i64 d.fuse, .bool d.down] 27) (.slice Au d.secs.length cu) 22 1 d.secs.length 0 xs (d.secs.map bytesD) (w1.setCell ⟨w.heap.size, 0, none⟩ (.slice Au d.secs.length cu))) :=
    Lib.hid ⟨xs, HO2.out, by simpa using OwnsL.nil _ _, fun _ _ => rfl, HQ0.out, HB2.out⟩
  go_wp2
  go_loopw [14] (fun i wr => ∃ k : Nat, k ≤ d.secs.length ∧ i = .int .i64 k ∧ Hid (CopyIn w (w.heap.size + 1 + 1) w.heap.size (.cells #[.slice Au d.secs.length cu, .slice A1 d.cache.length d1, .int .i64 d.fuse, .bool d.down] 27) (.slice Au d.secs.length cu) 22 1 d.secs.length k xs (d.secs.map bytesD) wr) ∧ Hid (wr.heap[w.heap.size + 1]? = some (.cells #[.slice none 0 0, .slice none 0 0, .int .i64 0, .bool false] 27))) (fun i _ => d.secs.length - (intOf i).toNat)
  case atStart => exact ⟨0, Nat.zero_le _, rfl, REL1, HQ1⟩
  case round =>
    clear x0 x1 x2 x3 x4 hz
    obtain ⟨k, hk, rfl, HC, HP⟩ := hrel
    obtain ⟨zs, ho, hown, htl, hbx, hb⟩ := HC.out
    obtain ⟨x0, x1, x2, x3, x4⟩ := box4 hbx
    by_cases hlt : k < d.secs.length
    · have hxk : k < xs.length := by rw [HXL.out]; omega
      rcases row_cases ho with ⟨_, h, _⟩ | ⟨g, cap, hu, hbg, hR, hn, hc, hl⟩
      · omega
      · cases hu
        have hzk : k < zs.length := by omega
        have ez : zs[k] = xs[k] := by
          have := htl k (Nat.le_refl _)
          rw [List.getElem?_eq_getElem hzk, List.getElem?_eq_getElem hxk] at this
          exact Option.some.inj this
        have c1 := hR.cell hzk
        rw [ez] at c1
        have rk := (X0.out.on hb).2 k hxk (by simpa using hlt)
        rw [List.getElem_map] at rk
        obtain ⟨Ak, dk, ek, _, _⟩ := rk.len
        rw [ek] at c1 rk
        have hg := hR.lt
        have hlk := S3.out d.secs[k] (List.getElem_mem _)
        have i1 : (k : Int) < (d.secs.length : Int) := by omega
        have i2 : (0 : Int) ≤ (k : Int) := by omega
        have fz := hR.frozen k
        have hne1 : ¬ g = w.heap.size := by omega
        have hne2 : ¬ w.heap.size = g := by omega
        have RK := Lib.hid rk
        have HOWN := Lib.hid hown
        have HO := Lib.hid ho
        have HT := Lib.hid htl
        have HR := Lib.hid hR
        have HBX := Lib.hid hbx
        have HZ := Lib.hid hzk
        have HBB := Lib.hid hb
        clear rk ek ez hown ho htl hR hbx hb hl hxk hzk HC
        go_wp2
        go_region_held3 (fun W => W.cell? ⟨w.heap.size, 0, none⟩ = some (.slice (some ⟨g, 0, none⟩) d.secs.length cu)) (first | go_keep | exact a0)
          (first
            | (go_at_call 64; refine (cloneB_any _ d.secs[k] _ (RK.out.on ((Below.refl _ _).drew)) hlk).mono ?_; rintro e w2 ⟨x, rfl, ox, bx⟩; obtain ⟨a0, _, _, _, _⟩ := box4 (box_on (show wr.drew.heap[w.heap.size]? = _ from HBX.out) bx); have b2 : Below wr.heap.size wr w2 := (Below.refl _ _).drew.trans bx; have R2 := HR.out.keep (b2.block g hg); have cc := R2.cell HZ.out; have ff := R2.frozen k; obtain ⟨Ax, dx, rfl, _, _⟩ := ox.reads.len))
        have NEW := Lib.hid (CopyIn.step (w := w) HO.out HOWN.out HT.out HBX.out HBB.out b2 ox hg (by omega) hne2 (by omega) hlt)
        have HP2 := Lib.hid (box_far (j := k) (u := .slice Ax (d.secs[k]).length dx) (box_on HP.out b2) (show w.heap.size + 1 ≠ g by omega))
        clear cc ff a0 ox bx b2 R2 x0 x1 x2 x3 x4
        go_wp2
        go_roundw
        case rel =>
          refine ⟨k + 1, by omega, by go_num, ?_, HP2⟩
          have h := NEW.out
          exact Lib.hid (h (by simpa using hlt) (by simp))
        case measure => simp [intOf]; omega
    · have e : k = d.secs.length := by omega
      obtain ⟨w0, hw0⟩ : ∃ w0, w0 = wr := ⟨_, rfl⟩
      subst hw0
      have hsec : Owns w0 (fun b => w.heap.size + 1 + 1 ≤ b) (.slice Au d.secs.length cu) (secsD d.secs) := by
        have h := hown
        rw [List.take_of_length_le (by rw [ho.1]; omega), List.take_of_length_le (by simp; omega)] at h
        exact row_owns ho h (by simp)
      have HSEC := Lib.hid hsec
      have hzw : w.heap.size + 1 < w0.heap.size := (Array.getElem?_eq_some_iff.1 HP.out).1
      have HBX := Lib.hid hbx
      have HAT := Lib.hid (Y1.out.on hb)
      have HBB := Lib.hid hb
      clear hown htl hbx hb ho hsec HC
      go_wp2_with fail
      refine (cloneWr_any A1 d.cache.length d1 ys _ HAT.out HYL.out ones1.out s2).mono ?_
      rintro e w2 ⟨u2, rfl, ho2, b2⟩
      obtain ⟨Av, cv, rfl⟩ : ∃ Av cv, u2 = .slice Av d.cache.length cv := by
        rcases row_cases ho2 with ⟨rfl, h, _⟩ | ⟨g, cap, rfl, _⟩
        · exact ⟨none, 0, by rw [h]⟩
        · exact ⟨_, cap, rfl⟩
      have q0 := box_on HBX.out b2
      have q1 := box_on HP.out b2
      have hz2 := b2.size
      have hb2 := HBB.out.trans (b2.mono HBB.out.size)
      have hs2 := HSEC.out.lt.on b2
      clear x0 x1 x2 x3 x4
      obtain ⟨x0, x1, x2, x3, x4⟩ := box4 q0
      have q0' := box_set (i := 1) (u := .slice Av d.cache.length cv) q0
      have q1' := box_far (j := 1) (u := .slice Av d.cache.length cv) q1 (show w.heap.size + 1 ≠ w.heap.size by omega)
      have ho3 : (w2.setCell ⟨w.heap.size, 1, none⟩ (.slice Av d.cache.length cv)).ownsRow w0.heap.size 78 2 (.slice Av d.cache.length cv) d.cache.length ys := row_keep ho2 (fun g hg => Below.heap_setCell _ _ _ _ (by have := (row_lt ho2 g hg).2; simp; omega))
      have hb3 := hb2.setCell (p := ⟨w.heap.size, 1, none⟩) (Nat.le_refl _) (.slice Av d.cache.length cv)
      have hs3 : Owns (w2.setCell ⟨w.heap.size, 1, none⟩ (.slice Av d.cache.length cv)) (fun b => w.heap.size + 1 + 1 ≤ b ∧ b < w0.heap.size) (.slice Au d.secs.length cu) (secsD d.secs) := hs2.keep (fun b hb _ => Below.heap_setCell _ _ _ _ (by have := hb.1; simp; omega))
      have REL2 : Hid (CopyIn w w0.heap.size w.heap.size (.cells #[.slice Au d.secs.length cu, .slice Av d.cache.length cv, .int .i64 d.fuse, .bool d.down] 27) (.slice Av d.cache.length cv) 78 2 d.cache.length (0 * 2) ys (d.cache.flatMap wrC) (w2.setCell ⟨w.heap.size, 1, none⟩ (.slice Av d.cache.length cv))) :=
        Lib.hid ⟨ys, ho3, by simpa using OwnsL.nil _ _, fun _ _ => rfl, q0', hb3⟩
      have HP2 := Lib.hid q1'
      have HS3 := Lib.hid hs3
      clear q0 q1 q0' q1' ho2 ho3 hb2 hb3 hs2 hs3 b2 HSEC HBX HAT HBB HP
      go_wp2
      go_loopw [5, 6, 33] (fun _ _ i wt => ∃ k : Nat, k ≤ d.cache.length ∧ i = .int .i64 k ∧ Hid (CopyIn w w0.heap.size w.heap.size (.cells #[.slice Au d.secs.length cu, .slice Av d.cache.length cv, .int .i64 d.fuse, .bool d.down] 27) (.slice Av d.cache.length cv) 78 2 d.cache.length (k * 2) ys (d.cache.flatMap wrC) wt) ∧ Hid (wt.heap[w.heap.size + 1]? = some (.cells #[.slice none 0 0, .slice none 0 0, .int .i64 0, .bool false] 27)) ∧ Hid (Owns wt (fun b => w.heap.size + 1 + 1 ≤ b ∧ b < w0.heap.size) (.slice Au d.secs.length cu) (secsD d.secs))) (fun _ _ i _ => d.cache.length - (intOf i).toNat)
      case atStart => exact ⟨0, Nat.zero_le _, rfl, REL2, HP2, HS3⟩
      case round =>
        clear x0 x1 x2 x3 x4 hz2 REL2 HP2 HS3
        obtain ⟨k, hk, rfl, HC, HP, HS⟩ := hrel
        obtain ⟨zs, ho, hown, htl, hbx, hb⟩ := HC.out
        obtain ⟨x0, x1, x2, x3, x4⟩ := box4 hbx
        by_cases hlt : k < d.cache.length
        · have hxk : k * 2 + 1 < ys.length := by rw [HYL.out]; omega
          rcases row_cases ho with ⟨_, h, _⟩ | ⟨g, cap, hu, hbg, hR, hn, hc, hl⟩
          · omega
          · cases hu
            have hzk : k * 2 + 1 < zs.length := by omega
            have eq : ∀ j, k * 2 ≤ j → (h1 : j < zs.length) → (h2 : j < ys.length) → zs[j] = ys[j] := fun j hj h1 h2 => by
              have := htl j hj
              rw [List.getElem?_eq_getElem h1, List.getElem?_eq_getElem h2] at this
              exact Option.some.inj this
            have c0 := hR.cell (i := k * 2) (by omega)
            have c1 := hR.cell hzk
            rw [eq _ (by omega) hzk hxk] at c1
            rw [eq _ (by omega) (by omega) (by omega)] at c0
            have hcl := cache_len d.cache
            have r0 := (Y0.out.on hb).2 (k * 2) (by omega) (by omega)
            have r1 := (Y0.out.on hb).2 (k * 2 + 1) (by omega) (by omega)
            have g0 := cache_get0 d.cache k hlt
            have g1 := cache_get' d.cache k hlt
            rw [g1] at r1
            rw [g0] at r0
            generalize hy0 : ys[k * 2]'(by omega) = y0 at c0 r0
            cases r0
            obtain ⟨Ak, dk, ek, _, _⟩ := r1.len
            rw [ek] at c1 r1
            have hg := hR.lt
            have hlk := S4.out d.cache[k] (List.getElem_mem _)
            have i1 : (k : Int) < (d.cache.length : Int) := by omega
            have i2 : (0 : Int) ≤ (k : Int) := by omega
            have hne1 : ¬ g = w.heap.size := by omega
            have hne2 : ¬ w.heap.size = g := by omega
            have hne3 : ¬ g = wr.heap.size := by omega
            have hzr : w.heap.size < wr.heap.size := by omega
            have RK := Lib.hid (r1.on (bal1 wr (.cells #[.int .i64 (d.cache[k]).1, .slice Ak (d.cache[k]).2.length dk] 78)))
            have HOWN := Lib.hid hown
            have HO := Lib.hid ho
            have HT := Lib.hid htl
            have HR := Lib.hid hR
            have HBX := Lib.hid hbx
            have HZ := Lib.hid hzk
            have HBB := Lib.hid hb
            have G0 := Lib.hid g0
            have G1 := Lib.hid g1
            have HY0 := Lib.hid (show ys[k * 2]? = some (.int .i64 (d.cache[k]).1) by rw [List.getElem?_eq_getElem (by omega), hy0])
            have HCL := Lib.hid hcl
            have B0 := Lib.hid (al1 wr (.cells #[.int .i64 (d.cache[k]).1, .slice Ak (d.cache[k]).2.length dk] 78))
            clear r1 ek eq g0 g1 hy0 hown ho htl hR hbx hb hl hxk hzk HC hcl
            go_wp2
            go_region_held3 (fun W => W.cell? ⟨w.heap.size, 1, none⟩ = some (.slice (some ⟨g, 0, none⟩) d.cache.length cv) ∧ W.cell? ⟨wr.heap.size, 1, none⟩ = some (.slice Ak (d.cache[k]).2.length dk)) (first | go_keep | exact ⟨a1, f1⟩)
              (first
                | (go_at_call 64; refine (cloneB_any _ (d.cache[k]).2 _ (RK.out.on ((Below.refl _ _).drew)) hlk).mono ?_; rintro e w3 ⟨x, rfl, ox, bx⟩; have b3 : Below wr.heap.size wr w3 := bstep (bal1 wr (.cells #[.int .i64 (d.cache[k]).1, .slice Ak (d.cache[k]).2.length dk] 78)) ((Below.refl _ _).drew.trans bx); obtain ⟨_, a1, _, _, _⟩ := box4 (box_on HBX.out b3); obtain ⟨_, f1, _⟩ := box2 (box_on (show (wr.alloc (.cells #[.int .i64 (d.cache[k]).1, .slice Ak (d.cache[k]).2.length dk] 78)).drew.heap[wr.heap.size]? = _ from B0.out) bx); have R2 := HR.out.keep (b3.block g hg); have cc := R2.cell HZ.out; have ff := R2.frozen (k * 2 + 1); have ox2 := ox.mono (T := fun b => wr.heap.size ≤ b) (fun b hb => by have : (wr.alloc (.cells #[.int .i64 (d.cache[k]).1, .slice Ak (d.cache[k]).2.length dk] 78)).drew.heap.size = wr.heap.size + 1 := (by simp [World.drew]); omega); obtain ⟨Ax, dx, rfl, _, _⟩ := ox.reads.len))
            have NEW := Lib.hid (CopyIn.step2 (w := w) HO.out HOWN.out HT.out HBX.out HBB.out b3 ox2 hg hbg hne2 (by omega) hlt HY0.out)
            have HP2 := Lib.hid (box_far (j := k * 2 + 1) (u := .slice Ax (d.cache[k]).2.length dx) (box_on HP.out b3) (show w.heap.size + 1 ≠ g by omega))
            have HS2 := Lib.hid ((HS.out.on b3).keep (w' := w3.setCell ⟨g, k * 2 + 1, none⟩ (.slice Ax (d.cache[k]).2.length dx)) (fun b hb _ => Below.heap_setCell _ _ _ _ (by have := hb.2; simp; omega)))
            clear cc ff a1 f1 ox bx b3 R2 x0 x1 x2 x3 x4 ox2
            go_wp2
            go_roundw
            case rel => exact ⟨k + 1, by omega, by go_num, Lib.hid (NEW.out (by rw [HCL.out]; omega) G0.out G1.out), HP2, HS2⟩
            case measure => simp [intOf]; omega
        · have hcch : Owns wr (fun b => w0.heap.size ≤ b) (.slice Av d.cache.length cv) (cacheD d.cache) := by
            have h := hown
            rw [List.take_of_length_le (by rw [ho.1]; omega), List.take_of_length_le (by rw [cache_len]; omega)] at h
            exact row_owns ho h (cache_len _)
          have ol := OwnsL.two (U := fun b => w.heap.size + 2 ≤ b) HS.out hcch (fun b hb => hb.1) (fun b hb => by omega) (fun b hb hb' => by have := hb.2; omega)
          have q1 := HP.out
          obtain ⟨y0, y1, y2, y3, y4⟩ := box4 q1
          have m1 : Mid w.heap.size (w.heap.size + 2) (w.heap.size + 1) := .mk (by omega) (by omega)
          have OL := Lib.hid ol
          have HBB := Lib.hid hb
          clear hown ho htl hbx hb hcch ol q1 HC
          go_wp2
          refine bodyPost_ret (v := .agg #[.slice Au d.secs.length cu, .slice Av d.cache.length cv, .int .i64 d.fuse, .bool d.down]) (by simp [results, Try.results65, go_sem, *]) rfl ⟨_, rfl, ⟨_, _, rfl, OL.out.past (a := w.heap.size) (b := w.heap.size + 2) ?_ (by omega)⟩, bpast (b := w.heap.size + 2) HBB.out ?_⟩
          all_goals exact ((((Only.refl _ _).setCell m1 _).setCell m1 _).setCell m1 _).setCell m1 _
end Go.Proofs.Ytmeiobpeacdfjaa
