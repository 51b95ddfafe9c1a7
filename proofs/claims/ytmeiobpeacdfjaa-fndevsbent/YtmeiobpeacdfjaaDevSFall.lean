/- The contract of spec.FallDev. Conditions: no slice holds more than 2^20 elements. -/
import Derived.Test.YtmeiobpeacdfjaaDevSCopy
import Derived.Test.YtmeiobpeacdfjaaDevPtr2
import Derived.Test.YtmeiobpeacdfjaaDevFall
import Derived.Test.YtmeiobpeacdfjaaNames
import Derived.StillTailTactics
import Derived.Deep.DeepCutAuto
namespace Go.Proofs.Ytmeiobpeacdfjaa
open Go.RowKit
set_option maxRecDepth 100000
set_option linter.unusedSimpArgs false
set_option linter.unusedVariables false

theorem bit_zero (i : Nat) : bitB 0 i = false := by
  unfold bitB
  rw [Int.zero_ediv]
  rfl
theorem bit_high {k : Int} {i : Nat} (h0 : 0 ≤ k) (h1 : k < 1073741824) (hi : 30 ≤ i) : bitB k i = false := by
  have h2 : (1073741824 : Int) ≤ 2 ^ i := by
    have h : (2 : Nat) ^ 30 ≤ 2 ^ i := Nat.pow_le_pow_right (by omega) hi
    have h3 : ((2 ^ i : Nat) : Int) = (2 : Int) ^ i := Int.natCast_pow 2 i
    have h4 : ((2 ^ 30 : Nat) : Int) ≤ ((2 ^ i : Nat) : Int) := Int.ofNat_le.2 h
    rw [h3] at h4
    exact h4
  unfold bitB
  rw [Int.ediv_eq_zero_of_lt h0 (by omega)]
  rfl
/-- What counts of keep. -/
def keepK (k : Int) : Int := if inB k 0 1073741823 = true then k else 0
theorem surv_keepK (k : Int) : surv k = bitB (keepK k) := by
  funext i
  unfold surv keepK
  cases h : inB k 0 1073741823
  · rw [if_neg (by simp), bit_zero]
    simp [inB] at h
    by_cases h0 : 0 ≤ k
    · have : ¬ k < 1073741824 := by have := h h0; omega
      simp [this]
    · simp [h0]
  · rw [if_pos rfl]
    simp [inB] at h
    have h1 : k < 1073741824 := by omega
    simp [h.1, h1]
theorem keepK_high (k : Int) {i : Nat} (hi : 30 ≤ i) : bitB (keepK k) i = false := by
  unfold keepK
  cases h : inB k 0 1073741823
  · rw [if_neg (by simp)]; exact bit_zero i
  · rw [if_pos rfl]
    simp [inB] at h
    exact bit_high h.1 (by omega) hi
theorem appK_stop {kp : Nat → Bool} {ls : List (List UInt8)} {ps : List (Int × List UInt8)} {k : Nat} (h : ∀ i, k ≤ i → i < ps.length → kp i = false) : ∀ n, k ≤ n → n ≤ ps.length → appK kp ls ps n = appK kp ls ps k := by
  intro n
  induction n with
  | zero => intro h1 _; rw [show k = 0 by omega]
  | succ n ih =>
    intro h1 h2
    by_cases he : k = n + 1
    · rw [he]
    · rw [appK_no (by omega) (h n (by omega) (by omega))]
      exact ih (by omega) (by omega)
def FaIn (w1 : World) (p : Nat) (A0 A1 : Option Addr) (c0 c1 : Nat) (d : DevD) (kp : Nat → Bool) (zs : List Value) (T : Nat → Prop) (k : Nat) (wr : World) : Prop :=
  ∃ ys, wr.ownsRow 0 22 1 (.slice A0 d.secs.length c0) d.secs.length ys ∧ OwnsL wr T (ys ++ zs.drop (k * 2)) ((appK kp d.secs d.cache k).map bytesD ++ (d.cache.flatMap wrC).drop (k * 2)) ∧ At wr A1 zs ∧ wr.heap[p]? = some (.cells #[.slice A0 d.secs.length c0, .slice A1 d.cache.length c1, .int .i64 d.fuse, .bool d.down] 27) ∧ Only (fun x => (Value.slice A0 d.secs.length c0).ownBlock = some x) w1 wr
theorem drop2 {zs : List Value} {k : Nat} {a b : Value} (h0 : zs[k * 2]? = some a) (h1 : zs[k * 2 + 1]? = some b) : zs.drop (k * 2) = a :: b :: zs.drop ((k + 1) * 2) := cons2 h0 h1
theorem OwnsL.front {w : World} {T : Nat → Prop} {ys zs : List Value} {cs ds : List Dat} (h : OwnsL w T (ys ++ zs) (cs ++ ds)) (hl : ys.length = cs.length) : OwnsL w T ys cs := by
  obtain ⟨hL, F, ho, hF, hd⟩ := h
  refine ⟨hl, F, fun i a b => ?_, hF, hd⟩
  have h := ho i (by simp; omega) (by simp; omega)
  rw [List.getElem_append_left a, List.getElem_append_left b] at h
  exact h
/-- The device in its box, behind the loop: the cache emptied, down and fuse set. -/
theorem fall_fin {w w2 wr : World} {p r n e0 : Nat} {B0 : Option Addr} {v1 : Value} {f : Int} {dn : Bool} {S T : Nat → Prop} {ys : List Value} {LL : List (List UInt8)} {obj : Obj} (hB : Below w.heap.size w w2) (hO : Only (fun x => (Value.slice B0 n e0).ownBlock = some x) w2 wr)
    (hr : wr.ownsRow 0 22 1 (.slice B0 n e0) n ys) (ho : OwnsL wr T ys (LL.map bytesD)) (hn : LL.length = n) (hT : ∀ x, T x → (S x ∧ x < w2.heap.size) ∧ (Value.slice B0 n e0).ownBlock ≠ some x) (hS : ∀ g, (Value.slice B0 n e0).ownBlock = some g → S g ∧ g < w2.heap.size)
    (hpS : ¬ S p) (hp : p < w2.heap.size) (q : wr.heap[p]? = some (.cells #[.slice B0 n e0, v1, .int .i64 f, .bool dn] 27)) (qr : w2.heap[r]? = some obj) (hrp : r ≠ p) (hlow : ∀ x, S x → w.heap.size + 2 ≤ x) (hr2 : r < w.heap.size + 2) (hpw : w.heap.size ≤ p)
    {wF : World} (hF : wF = (((wr.setCell ⟨p, 1, none⟩ (.slice (some ⟨wr.heap.size, 0, none⟩) 0 0)).setCell ⟨p, 3, none⟩ (.bool false)).setCell ⟨p, 2, none⟩ (.int .i64 (-1))).alloc (.cells #[] 78)) :
    wF.heap[p]? = some (.cells #[.slice B0 n e0, .slice (some ⟨wr.heap.size, 0, none⟩) 0 0, .int .i64 (-1), .bool false] 27) ∧ OwnDev wF (fun x => (S x ∧ x < w2.heap.size) ∨ wr.heap.size ≤ x) (.agg #[.slice B0 n e0, .slice (some ⟨wr.heap.size, 0, none⟩) 0 0, .int .i64 (-1), .bool false]) ⟨LL, [], -1, false⟩ ∧ Below w.heap.size w wF ∧ wF.heap[r]? = some obj := by
  have hzr := hO.size
  have hk3 : ∀ x, x ≠ p → (((wr.setCell ⟨p, 1, none⟩ (.slice (some ⟨wr.heap.size, 0, none⟩) 0 0)).setCell ⟨p, 3, none⟩ (.bool false)).setCell ⟨p, 2, none⟩ (.int .i64 (-1))).heap[x]? = wr.heap[x]? := fun x hx =>
    (Below.heap_setCell _ _ _ _ (by simpa using hx)).trans ((Below.heap_setCell _ _ _ _ (by simpa using hx)).trans (Below.heap_setCell _ _ _ _ (by simpa using hx)))
  have q3 := box_set (i := 2) (u := .int .i64 (-1)) (box_set (i := 3) (u := .bool false) (box_set (i := 1) (u := .slice (some ⟨wr.heap.size, 0, none⟩) 0 0) q))
  have hz3 : (((wr.setCell ⟨p, 1, none⟩ (.slice (some ⟨wr.heap.size, 0, none⟩) 0 0)).setCell ⟨p, 3, none⟩ (.bool false)).setCell ⟨p, 2, none⟩ (.int .i64 (-1))).heap.size = wr.heap.size := by simp
  have o3 : Only (fun x => x = p) wr (((wr.setCell ⟨p, 1, none⟩ (.slice (some ⟨wr.heap.size, 0, none⟩) 0 0)).setCell ⟨p, 3, none⟩ (.bool false)).setCell ⟨p, 2, none⟩ (.int .i64 (-1))) := (((Only.refl (fun x => x = p) wr).setCell (g := p) rfl _).setCell (g := p) rfl _).setCell (g := p) rfl _
  have hlit := row_lit (((wr.setCell ⟨p, 1, none⟩ (.slice (some ⟨wr.heap.size, 0, none⟩) 0 0)).setCell ⟨p, 3, none⟩ (.bool false)).setCell ⟨p, 2, none⟩ (.int .i64 (-1))) 78 2
  rw [← hF] at hlit
  generalize ((wr.setCell ⟨p, 1, none⟩ (.slice (some ⟨wr.heap.size, 0, none⟩) 0 0)).setCell ⟨p, 3, none⟩ (.bool false)).setCell ⟨p, 2, none⟩ (.int .i64 (-1)) = w3 at *
  have hb3 : Below w3.heap.size w3 wF := by rw [hF]; exact bal1 _ _
  rw [hz3] at hb3 hlit
  have hk4 : ∀ x, x < wr.heap.size → x ≠ p → wF.heap[x]? = wr.heap[x]? := fun x hx hxp => (hb3.block x hx).trans (hk3 x hxp)
  have hrr : ¬ (Value.slice B0 n e0).ownBlock = some r := fun h => by have := hlow r (hS r h).1; omega
  have hrz : r < w2.heap.size := (Array.getElem?_eq_some_iff.1 qr).1
  refine ⟨(hb3.block p (by omega)).trans (by simpa using q3), ?_, ?_, (hk4 r (by omega) hrp).trans ((hO.block r hrz hrr).trans qr)⟩
  · have hrow2 : wF.ownsRow 0 22 1 (.slice B0 n e0) LL.length ys := by
      rw [hn]
      exact row_keep hr (fun g hg => hk4 g (row_lt hr g hg).1 (fun h => hpS (h ▸ (hS g hg).1)))
    have hol2 := ho.keep (w' := wF) (fun b' hb' hl' => hk4 b' hl' (fun h => hpS (h ▸ (hT b' hb').1.1)))
    refine ⟨_, _, rfl, OwnsL.two (S := fun x => S x ∧ x < w2.heap.size) (T := fun x => wr.heap.size ≤ x) (row_ownsS hrow2 _ (fun g hg => hS g hg) (hol2.mono (fun x hx => hT x hx)) (by simp)) ?_ (fun b hb => .inl hb) (fun b hb => .inr hb) (fun b hb hb' => by have := hb.2; omega)⟩
    have h := row_owns hlit (OwnsL.nil _ _) rfl
    simpa [cacheD] using h
  · refine hB.trans ((hO.below hB.size (fun b hb => by have := hlow b (hS b hb).1; omega)).trans ((o3.below (Nat.le_trans hB.size hzr) (fun b hb => by have h : b = p := hb; omega)).trans ?_))
    exact hb3.mono (Nat.le_trans hB.size hzr)
set_option maxHeartbeats 4000000 in
theorem specFallDev_any (v : Value) (keep : Int) (d : DevD) (w : World) (hv : RdDev w w.heap.size v d) (hs : SmallD d) : Calls Try.prog 28 #[v, .int .i64 keep] w (NewDev w (fallD d keep)) := by
  have HNO : Hid (okD d = false → fallD d keep = d) := Lib.hid (fun h => fallD_no (fun h' => by rw [h] at h'; cases h'))
  have HYE : Hid (okD d = true → fallD d keep = ⟨appK (bitB (keepK keep)) d.secs d.cache d.cache.length, [], -1, false⟩) := Lib.hid (fun h => by rw [fallD_yes h, surv_keepK])
  generalize fallD d keep = D at *
  have HV := Lib.hid hv
  have HS := Lib.hid hs
  obtain ⟨A0, c0, A1, c1, rfl⟩ := hv.shape
  obtain ⟨q0, q1⟩ := al2 w (.cells #[.slice A0 d.secs.length c0, .slice A1 d.cache.length c1, .int .i64 d.fuse, .bool d.down] 27) (.cells #[.slice none 0 0, .slice none 0 0, .int .i64 0, .bool false] 27)
  clear hv hs
  go_enter Try.func28, Try.ntmps28
  go_wp2_with fail
  refine (l2Copy_any _ d _ (HV.out.on (bal2 _ _ _)) HS.out).mono ?_
  rintro e w1 ⟨x, rfl, o1, b1⟩
  have hb1 := bstep (bal2 _ _ _) b1
  have hz1 := b1.size
  simp only [World.size_alloc] at hz1 o1
  obtain ⟨A2, c2, A3, c3, rfl⟩ := o1.rd.shape
  have P1 : Hid (PDev (w1.alloc (.cells #[.slice A2 d.secs.length c2, .slice A3 d.cache.length c3, .int .i64 d.fuse, .bool d.down] 27)) w1.heap.size (fun b => w.heap.size + 1 + 1 ≤ b ∧ b < w1.heap.size) d) := Lib.hid ⟨_, _, _, _, al1 _ _, o1.lt.on (bal1 _ _), fun h => by have := h.2; omega⟩
  have Q1 := Lib.hid (box_on (box_on q1 b1) (bal1 w1 (.cells #[.slice A2 d.secs.length c2, .slice A3 d.cache.length c3, .int .i64 d.fuse, .bool d.down] 27)))
  have HB1 := Lib.hid (bstep hb1 (bal1 w1 (.cells #[.slice A2 d.secs.length c2, .slice A3 d.cache.length c3, .int .i64 d.fuse, .bool d.down] 27)))
  have RD := Lib.hid (HV.out.on HB1.out)
  obtain ⟨x0, x1, x2, x3, x4⟩ := box4 (box_on q0 b1)
  have hzz : w.heap.size + 1 < w1.heap.size := by omega
  have hza : w.heap.size < w1.heap.size := by omega
  clear q0 q1 b1 hb1 o1
  go_wp2_with fail
  refine (specDevOk_any _ d _ RD.out HS.out).mono ?_
  rintro e w2 ⟨rfl, b2⟩
  have HB2 := Lib.hid (bstep HB1.out b2)
  have Q2 := Lib.hid (box_on Q1.out b2)
  have P2 : Hid (PDev w2 w1.heap.size (fun b => w.heap.size + 1 + 1 ≤ b ∧ b < w1.heap.size) d) := Lib.hid (by obtain ⟨a, b, c, dd, h1, h2, h3⟩ := P1.out; exact ⟨a, b, c, dd, box_on h1 b2, h2.on b2, h3⟩)
  have hz2 := b2.size
  simp only [World.size_alloc] at hz2
  clear x0 x1 x2 x3 x4 Q1 P1 b2 RD HB1
  cases hok : okD d
  · have HN := Lib.hid (HNO.out hok)
    obtain ⟨B0, e0, B1, e1, qp, od, hp⟩ := P2.out
    obtain ⟨x0, x1, x2, x3, x4⟩ := box4 qp
    obtain ⟨y0, y1, y2, y3, y4⟩ := box4 Q2.out
    have OD := Lib.hid od
    have m1 : Mid w.heap.size (w.heap.size + 2) (w.heap.size + 1) := .mk (by omega) (by omega)
    have n1 : ¬ w.heap.size + 1 = w1.heap.size := by omega
    clear qp od hp P2 Q2
    go_wp2
    refine bodyPost_ret (v := .agg #[.slice B0 d.secs.length e0, .slice B1 d.cache.length e1, .int .i64 d.fuse, .bool d.down]) (by simp [results, Try.results28, go_sem, *]) rfl ⟨_, rfl, ?_, bpast (b := w.heap.size + 2) HB2.out ?_⟩
    · rw [HN.out]
      refine (OD.out.far (T := Mid w.heap.size (w.heap.size + 2)) ?_ (fun b hb _ hb' => by have := hb.1; have := hb'.2; omega)).mono (fun b hb => by have := hb.1; omega)
      exact ((((Only.refl _ _).setCell m1 _).setCell m1 _).setCell m1 _).setCell m1 _
    · exact ((((Only.refl _ _).setCell m1 _).setCell m1 _).setCell m1 _).setCell m1 _
  · have OK := Lib.hid hok
    have FB := (okD_iff _).1 hok
    have sl : d.secs.length ≤ 60 := FB.2.1
    have cl : d.cache.length ≤ 60 := FB.2.2.1
    have PS := Lib.hid FB.2.2.2.2.1
    have HKH : Hid (∀ i, 30 ≤ i → bitB (keepK keep) i = false) := Lib.hid (fun i hi => keepK_high keep hi)
    obtain ⟨B0, e0, B1, e1, qp, od, hp⟩ := P2.out
    have HSP := Lib.hid hp
    have hpl : w1.heap.size < w2.heap.size := (Array.getElem?_eq_some_iff.1 qp).1
    have FD := Lib.hid (HYE.out OK.out)
    clear HNO HYE
    have O5 := od.lt
    obtain ⟨xs, zs, T, r0, r1, ol, hT, hS, h01⟩ := dev_split2 O5
    obtain ⟨ss, cs, f, dn⟩ := d
    dsimp only at *
    have hzl : xs.length = ss.length := by have h := r0.1; simpa using h
    have RZ : Hid (ReadsL w2 w2.heap.size zs (cs.flatMap wrC)) := by
      have h := ol.reads
      refine Lib.hid ⟨by have := h.1; simp only [List.length_append, List.length_map] at this; omega, fun i a c => ?_⟩
      have := h.2 (xs.length + i) (by simp; omega) (by simp only [List.length_append, List.length_map]; omega)
      rw [List.getElem_append_right (by omega), List.getElem_append_right (by simp; omega)] at this
      simpa [hzl] using this
    have REL : Hid (FaIn w2 w1.heap.size B0 B1 e0 e1 ⟨ss, cs, f, dn⟩ (bitB (keepK keep)) zs T 0 w2) := Lib.hid ⟨xs, r0, by simpa [appK] using ol, row_at r1, qp, Only.refl _ _⟩
    have HT := Lib.hid hT
    have HSS := Lib.hid hS
    have H01 : Hid (∀ b off, B1 = some ⟨b, off, none⟩ → (Value.slice B0 ss.length e0).ownBlock ≠ some b) := Lib.hid (fun b off h => h01 b (by rw [h]; rfl))
    have HPU : Hid ((Value.slice B0 ss.length e0).ownBlock ≠ some w1.heap.size) := Lib.hid (fun h => hp (hS _ h).1)
    have R0 := Lib.hid r0
    have hrm : w.heap.size + 1 < w2.heap.size := by omega
    clear r0 r1 ol hT hS h01 O5 qp od hp hzl FB hok P2 HV HS
    go_wp2_with fail
    refine (in_any _ _ _ _).mono ?_
    rintro e _ ⟨rfl, rfl⟩
    have hkk : keepK keep = if inB keep 0 1073741823 = true then keep else 0 := rfl
    have hk0 : 0 ≤ keepK keep := by
      unfold keepK
      cases h : inB keep 0 1073741823
      · simp
      · simp [inB] at h; simpa using h.1
    cases hin : inB keep 0 1073741823
    · have hkk2 : keepK keep = 0 := by rw [hkk, hin]; rfl
      rw [hkk2] at HKH FD REL hk0
      clear hin hkk2 hkk
      go_wp2
      go_loopw [6] (fun i wr => ∃ k : Nat, k ≤ cs.length ∧ k ≤ 30 ∧ i = .int .i64 k ∧ Hid (FaIn w2 w1.heap.size B0 B1 e0 e1 ⟨ss, cs, f, dn⟩ (bitB 0) zs T k wr)) (fun i _ => cs.length - (intOf i).toNat)
      case atStart => exact ⟨0, Nat.zero_le _, by omega, rfl, REL⟩
      case round =>
        obtain ⟨k, hk, hk30, rfl, HC⟩ := hrel
        obtain ⟨ys, hr, ho, ha, hq, hO⟩ := HC.out
        dsimp only at hr ho hq hO
        obtain ⟨x0, x1, x2, x3, x4⟩ := box4 hq
        by_cases hlt : k < cs.length ∧ k < 30
        · obtain ⟨hlt, hl30⟩ := hlt
          obtain ⟨A, c, e0', e1', hrd, ev⟩ := wr_cells RZ.out hlt
          have hzl : zs.length = cs.length * 2 := by rw [RZ.out.1, cache_len]
          have hyl : ys.length = ss.length := by rw [hr.1]; omega
          rw [cons2 e0' e1', cons2D hlt] at ho
          have t1 : decide ((k : Int) < (cs.length : Int)) = true := decide_eq_true (by omega)
          have t2 : decide ((k : Int) < 30) = true := decide_eq_true (by omega)
          cases hb : bitB 0 k
          · have hb' : (bits .and .i64 (0 / 2 ^ k) 1 == 1) = false := hb
            have NEW : Hid (FaIn w2 w1.heap.size B0 B1 e0 e1 ⟨ss, cs, f, dn⟩ (bitB 0) zs T (k + 1) wr) := by
              refine Lib.hid ⟨ys, hr, ?_, ha, hq, hO⟩
              rw [appK_no hlt hb]
              exact ho.drop2 (by simp [appK_length]; omega)
            clear hr ho ha hq hO HC e0' e1' ev hrd hb hzl hyl
            go_wp2
            go_roundw
            case rel => exact ⟨k + 1, by omega, by omega, by go_num, NEW⟩
            case measure => simp [intOf]; omega
          · have hb' : (bits .and .i64 (0 / 2 ^ k) 1 == 1) = true := hb
            exact absurd hb (by rw [bit_zero]; simp)
        · have hst : appK (bitB 0) ss cs cs.length = appK (bitB 0) ss cs k := appK_stop (fun i h1 h2 => HKH.out i (by omega)) _ hk (Nat.le_refl _)
          have HST := Lib.hid hst
          clear hst
          have hzr := hO.size
          have hpr : w1.heap.size < wr.heap.size := by omega
          have tt : (k < cs.length ∧ 30 ≤ k) ∨ cs.length ≤ k := by omega
          clear hlt
          rcases tt with ⟨h1, h2⟩ | h1
          · have t1 : decide ((k : Int) < (cs.length : Int)) = true := decide_eq_true (by omega)
            have t2 : decide ((k : Int) < 30) = false := decide_eq_false (by omega)
            clear ha HC
            have HOL : OwnsL wr T ys ((appK (bitB 0) ss cs cs.length).map bytesD) := by
              rw [HST.out]
              exact ho.front (by simp [appK_length]; rw [hr.1]; omega)
            go_upto_region 14 with (fail)
            obtain ⟨wF, hwF⟩ : ∃ wF, wF = (((wr.setCell ⟨w1.heap.size, 1, none⟩ (.slice (some ⟨wr.heap.size, 0, none⟩) 0 0)).setCell ⟨w1.heap.size, 3, none⟩ (.bool false)).setCell ⟨w1.heap.size, 2, none⟩ (.int .i64 (-1))).alloc (.cells #[] 78) := ⟨_, rfl⟩
            rw [← hwF]
            obtain ⟨qF, odF, bF, rF⟩ := fall_fin HB2.out hO hr HOL (appK_length _ _ _ _) HT.out HSS.out HSP.out hpl hq Q2.out (show w.heap.size + 1 ≠ w1.heap.size by omega) (fun x hx => by have := hx.1; omega) (by omega) (by omega) hwF
            obtain ⟨a0, a1, a2, a3, a4⟩ := box4 qF
            obtain ⟨y0, y1, y2, y3, y4⟩ := box4 rF
            have OD := Lib.hid odF
            have BF := Lib.hid bF
            have m1 : Mid w.heap.size (w.heap.size + 2) (w.heap.size + 1) := .mk (by omega) (by omega)
            have n1 : ¬ w.heap.size + 1 = w1.heap.size := by omega
            clear qF odF bF rF hwF HOL hr ho hq hO x0 x1 x2 x3 x4
            go_wp2
            refine bodyPost_ret (v := .agg #[.slice B0 ss.length e0, .slice (some ⟨wr.heap.size, 0, none⟩) 0 0, .int .i64 (-1), .bool false]) (by simp [results, Try.results28, go_sem, *]) rfl ⟨_, rfl, ?_, bpast (b := w.heap.size + 2) BF.out ?_⟩
            · rw [FD.out]
              refine (OD.out.far (T := Mid w.heap.size (w.heap.size + 2)) ?_ (fun b hb _ hb' => by have h : ((w.heap.size + 1 + 1 ≤ b ∧ b < w1.heap.size) ∧ b < w2.heap.size) ∨ wr.heap.size ≤ b := hb; have := hb'.2; omega)).mono (fun b hb => by have h : ((w.heap.size + 1 + 1 ≤ b ∧ b < w1.heap.size) ∧ b < w2.heap.size) ∨ wr.heap.size ≤ b := hb; omega)
              exact ((((Only.refl _ _).setCell m1 _).setCell m1 _).setCell m1 _).setCell m1 _
            · exact ((((Only.refl _ _).setCell m1 _).setCell m1 _).setCell m1 _).setCell m1 _
          · have t1 : decide ((k : Int) < (cs.length : Int)) = false := decide_eq_false (by omega)
            clear ha HC
            have HOL : OwnsL wr T ys ((appK (bitB 0) ss cs cs.length).map bytesD) := by
              rw [HST.out]
              exact ho.front (by simp [appK_length]; rw [hr.1]; omega)
            go_upto_region 14 with (fail)
            obtain ⟨wF, hwF⟩ : ∃ wF, wF = (((wr.setCell ⟨w1.heap.size, 1, none⟩ (.slice (some ⟨wr.heap.size, 0, none⟩) 0 0)).setCell ⟨w1.heap.size, 3, none⟩ (.bool false)).setCell ⟨w1.heap.size, 2, none⟩ (.int .i64 (-1))).alloc (.cells #[] 78) := ⟨_, rfl⟩
            rw [← hwF]
            obtain ⟨qF, odF, bF, rF⟩ := fall_fin HB2.out hO hr HOL (appK_length _ _ _ _) HT.out HSS.out HSP.out hpl hq Q2.out (show w.heap.size + 1 ≠ w1.heap.size by omega) (fun x hx => by have := hx.1; omega) (by omega) (by omega) hwF
            obtain ⟨a0, a1, a2, a3, a4⟩ := box4 qF
            obtain ⟨y0, y1, y2, y3, y4⟩ := box4 rF
            have OD := Lib.hid odF
            have BF := Lib.hid bF
            have m1 : Mid w.heap.size (w.heap.size + 2) (w.heap.size + 1) := .mk (by omega) (by omega)
            have n1 : ¬ w.heap.size + 1 = w1.heap.size := by omega
            clear qF odF bF rF hwF HOL hr ho hq hO x0 x1 x2 x3 x4
            go_wp2
            refine bodyPost_ret (v := .agg #[.slice B0 ss.length e0, .slice (some ⟨wr.heap.size, 0, none⟩) 0 0, .int .i64 (-1), .bool false]) (by simp [results, Try.results28, go_sem, *]) rfl ⟨_, rfl, ?_, bpast (b := w.heap.size + 2) BF.out ?_⟩
            · rw [FD.out]
              refine (OD.out.far (T := Mid w.heap.size (w.heap.size + 2)) ?_ (fun b hb _ hb' => by have h : ((w.heap.size + 1 + 1 ≤ b ∧ b < w1.heap.size) ∧ b < w2.heap.size) ∨ wr.heap.size ≤ b := hb; have := hb'.2; omega)).mono (fun b hb => by have h : ((w.heap.size + 1 + 1 ≤ b ∧ b < w1.heap.size) ∧ b < w2.heap.size) ∨ wr.heap.size ≤ b := hb; omega)
              exact ((((Only.refl _ _).setCell m1 _).setCell m1 _).setCell m1 _).setCell m1 _
            · exact ((((Only.refl _ _).setCell m1 _).setCell m1 _).setCell m1 _).setCell m1 _
    · have hkk2 : keepK keep = keep := by rw [hkk, hin]; rfl
      rw [hkk2] at HKH FD REL hk0
      clear hin hkk2 hkk
      go_wp2
      go_loopw [6] (fun i wr => ∃ k : Nat, k ≤ cs.length ∧ k ≤ 30 ∧ i = .int .i64 k ∧ Hid (FaIn w2 w1.heap.size B0 B1 e0 e1 ⟨ss, cs, f, dn⟩ (bitB keep) zs T k wr)) (fun i _ => cs.length - (intOf i).toNat)
      case atStart => exact ⟨0, Nat.zero_le _, by omega, rfl, REL⟩
      case round =>
        obtain ⟨k, hk, hk30, rfl, HC⟩ := hrel
        obtain ⟨ys, hr, ho, ha, hq, hO⟩ := HC.out
        dsimp only at hr ho hq hO
        obtain ⟨x0, x1, x2, x3, x4⟩ := box4 hq
        by_cases hlt : k < cs.length ∧ k < 30
        · obtain ⟨hlt, hl30⟩ := hlt
          obtain ⟨A, c, e0', e1', hrd, ev⟩ := wr_cells RZ.out hlt
          have hzl : zs.length = cs.length * 2 := by rw [RZ.out.1, cache_len]
          have hyl : ys.length = ss.length := by rw [hr.1]; omega
          rw [cons2 e0' e1', cons2D hlt] at ho
          have t1 : decide ((k : Int) < (cs.length : Int)) = true := decide_eq_true (by omega)
          have t2 : decide ((k : Int) < 30) = true := decide_eq_true (by omega)
          cases hb : bitB keep k
          · have hb' : (bits .and .i64 (keep / 2 ^ k) 1 == 1) = false := hb
            have NEW : Hid (FaIn w2 w1.heap.size B0 B1 e0 e1 ⟨ss, cs, f, dn⟩ (bitB keep) zs T (k + 1) wr) := by
              refine Lib.hid ⟨ys, hr, ?_, ha, hq, hO⟩
              rw [appK_no hlt hb]
              exact ho.drop2 (by simp [appK_length]; omega)
            clear hr ho ha hq hO HC e0' e1' ev hrd hb hzl hyl
            go_wp2
            go_roundw
            case rel => exact ⟨k + 1, by omega, by omega, by go_num, NEW⟩
            case measure => simp [intOf]; omega
          · have hb' : (bits .and .i64 (keep / 2 ^ k) 1 == 1) = true := hb
            obtain ⟨b, off, rfl, hc⟩ : ∃ b off, B1 = some ⟨b, off, none⟩ ∧ ∀ i (h : i < zs.length), wr.cell? ⟨b, off + i, none⟩ = some zs[i] := by
              rcases ha with h | h
              · subst h; simp at hzl; omega
              · exact h
            have hpk := PS.out cs[k] (List.getElem_mem _)
            obtain ⟨m, hm0⟩ : ∃ m : Nat, (cs[k]).1 = (m : Int) := ⟨(cs[k]).1.toNat, by omega⟩
            have hml : m < ss.length := by omega
            have y0 : wr.cell? ⟨b, off + k * 2, none⟩ = some (.int .i64 (m : Int)) := by
              have h := hc (k * 2) (by omega)
              rw [List.getElem?_eq_getElem (by omega)] at e0'
              rw [h, Option.some.inj e0', hm0]
            have y1 : wr.cell? ⟨b, off + k * 2 + 1, none⟩ = some (.slice A (cs[k]).2.length c) := by
              have h := hc (k * 2 + 1) (by omega)
              rw [List.getElem?_eq_getElem (by omega)] at e1'
              rw [Nat.add_assoc, h, Option.some.inj e1']
            rcases row_cases hr with ⟨_, h, _⟩ | ⟨g, cap, hu, hbg, hR, hnc, hcm, hl⟩
            · omega
            · cases hu
              have cc := hR.cell (i := m) (by omega)
              have ff := hR.frozen m
              generalize hyy : ys[m]'(by omega) = yy at cc
              have i1 : (m : Int) < (ss.length : Int) := by omega
              have i2 : (0 : Int) ≤ (m : Int) := by omega
              have i3 : (k : Int) < (cs.length : Int) := by omega
              have i4 : (0 : Int) ≤ (k : Int) := by omega
              have NEW : Hid (FaIn w2 w1.heap.size (some ⟨g, 0, none⟩) (some ⟨b, off, none⟩) e0 e1 ⟨ss, cs, f, dn⟩ (bitB keep) zs T (k + 1) (wr.drew.setCell ⟨g, m, none⟩ (.slice A (cs[k]).2.length c))) := by
                have hd0 : Below wr.heap.size wr wr.drew := (Below.refl _ _).drew
                refine Lib.hid ⟨ys.set m (.slice A (cs[k]).2.length c), row_set (row_on hr hd0) m _, ?_, ?_, box_far (box_on hq hd0) (fun h => HPU.out (by rw [h]; rfl)), (hO.trans (Only.of_below hd0 _)).setCell (g := g) rfl _⟩
                · rw [appK_yes hlt hb, List.map_set, show (cs[k]).1.toNat = m by rw [hm0]; simp]
                  have h := ho.move (n := m) (by simp [appK_length]; omega)
                  exact (h.on hd0).keep (fun b' hb' _ => Below.heap_setCell _ _ _ _ (fun h => (HT.out b' hb').2 (by rw [h]; rfl)))
                · exact (ha.on hd0).far ((Only.refl (fun x => x = g) wr.drew).setCell (j := m) rfl (.slice A (cs[k]).2.length c)) (fun b' off' h hb' => H01.out b' off' h (by rw [hb']; rfl))
              clear hr ho ha hq hO HC hc e0' e1' ev hrd hpk hm0 hR hyy hzl hb
              go_wp2
              go_still_tail 15, (by kernel_rfl)
              change wpList _ _ _ _ _ wr.drew
              have ccd : wr.drew.cell? ⟨g, m, none⟩ = some yy := cc
              have ffd : wr.drew.frozen? ⟨g, m, none⟩ = false := ff
              generalize wr.drew = wd at NEW ccd ffd ⊢
              go_wp2
              go_roundw
              case rel => exact ⟨k + 1, by omega, by omega, by go_num, NEW⟩
              case measure => simp [intOf]; omega
        · have hst : appK (bitB keep) ss cs cs.length = appK (bitB keep) ss cs k := appK_stop (fun i h1 h2 => HKH.out i (by omega)) _ hk (Nat.le_refl _)
          have HST := Lib.hid hst
          clear hst
          have hzr := hO.size
          have hpr : w1.heap.size < wr.heap.size := by omega
          have tt : (k < cs.length ∧ 30 ≤ k) ∨ cs.length ≤ k := by omega
          clear hlt
          rcases tt with ⟨h1, h2⟩ | h1
          · have t1 : decide ((k : Int) < (cs.length : Int)) = true := decide_eq_true (by omega)
            have t2 : decide ((k : Int) < 30) = false := decide_eq_false (by omega)
            clear ha HC
            have HOL : OwnsL wr T ys ((appK (bitB keep) ss cs cs.length).map bytesD) := by
              rw [HST.out]
              exact ho.front (by simp [appK_length]; rw [hr.1]; omega)
            go_upto_region 14 with (fail)
            obtain ⟨wF, hwF⟩ : ∃ wF, wF = (((wr.setCell ⟨w1.heap.size, 1, none⟩ (.slice (some ⟨wr.heap.size, 0, none⟩) 0 0)).setCell ⟨w1.heap.size, 3, none⟩ (.bool false)).setCell ⟨w1.heap.size, 2, none⟩ (.int .i64 (-1))).alloc (.cells #[] 78) := ⟨_, rfl⟩
            rw [← hwF]
            obtain ⟨qF, odF, bF, rF⟩ := fall_fin HB2.out hO hr HOL (appK_length _ _ _ _) HT.out HSS.out HSP.out hpl hq Q2.out (show w.heap.size + 1 ≠ w1.heap.size by omega) (fun x hx => by have := hx.1; omega) (by omega) (by omega) hwF
            obtain ⟨a0, a1, a2, a3, a4⟩ := box4 qF
            obtain ⟨y0, y1, y2, y3, y4⟩ := box4 rF
            have OD := Lib.hid odF
            have BF := Lib.hid bF
            have m1 : Mid w.heap.size (w.heap.size + 2) (w.heap.size + 1) := .mk (by omega) (by omega)
            have n1 : ¬ w.heap.size + 1 = w1.heap.size := by omega
            clear qF odF bF rF hwF HOL hr ho hq hO x0 x1 x2 x3 x4
            go_wp2
            refine bodyPost_ret (v := .agg #[.slice B0 ss.length e0, .slice (some ⟨wr.heap.size, 0, none⟩) 0 0, .int .i64 (-1), .bool false]) (by simp [results, Try.results28, go_sem, *]) rfl ⟨_, rfl, ?_, bpast (b := w.heap.size + 2) BF.out ?_⟩
            · rw [FD.out]
              refine (OD.out.far (T := Mid w.heap.size (w.heap.size + 2)) ?_ (fun b hb _ hb' => by have h : ((w.heap.size + 1 + 1 ≤ b ∧ b < w1.heap.size) ∧ b < w2.heap.size) ∨ wr.heap.size ≤ b := hb; have := hb'.2; omega)).mono (fun b hb => by have h : ((w.heap.size + 1 + 1 ≤ b ∧ b < w1.heap.size) ∧ b < w2.heap.size) ∨ wr.heap.size ≤ b := hb; omega)
              exact ((((Only.refl _ _).setCell m1 _).setCell m1 _).setCell m1 _).setCell m1 _
            · exact ((((Only.refl _ _).setCell m1 _).setCell m1 _).setCell m1 _).setCell m1 _
          · have t1 : decide ((k : Int) < (cs.length : Int)) = false := decide_eq_false (by omega)
            clear ha HC
            have HOL : OwnsL wr T ys ((appK (bitB keep) ss cs cs.length).map bytesD) := by
              rw [HST.out]
              exact ho.front (by simp [appK_length]; rw [hr.1]; omega)
            go_upto_region 14 with (fail)
            obtain ⟨wF, hwF⟩ : ∃ wF, wF = (((wr.setCell ⟨w1.heap.size, 1, none⟩ (.slice (some ⟨wr.heap.size, 0, none⟩) 0 0)).setCell ⟨w1.heap.size, 3, none⟩ (.bool false)).setCell ⟨w1.heap.size, 2, none⟩ (.int .i64 (-1))).alloc (.cells #[] 78) := ⟨_, rfl⟩
            rw [← hwF]
            obtain ⟨qF, odF, bF, rF⟩ := fall_fin HB2.out hO hr HOL (appK_length _ _ _ _) HT.out HSS.out HSP.out hpl hq Q2.out (show w.heap.size + 1 ≠ w1.heap.size by omega) (fun x hx => by have := hx.1; omega) (by omega) (by omega) hwF
            obtain ⟨a0, a1, a2, a3, a4⟩ := box4 qF
            obtain ⟨y0, y1, y2, y3, y4⟩ := box4 rF
            have OD := Lib.hid odF
            have BF := Lib.hid bF
            have m1 : Mid w.heap.size (w.heap.size + 2) (w.heap.size + 1) := .mk (by omega) (by omega)
            have n1 : ¬ w.heap.size + 1 = w1.heap.size := by omega
            clear qF odF bF rF hwF HOL hr ho hq hO x0 x1 x2 x3 x4
            go_wp2
            refine bodyPost_ret (v := .agg #[.slice B0 ss.length e0, .slice (some ⟨wr.heap.size, 0, none⟩) 0 0, .int .i64 (-1), .bool false]) (by simp [results, Try.results28, go_sem, *]) rfl ⟨_, rfl, ?_, bpast (b := w.heap.size + 2) BF.out ?_⟩
            · rw [FD.out]
              refine (OD.out.far (T := Mid w.heap.size (w.heap.size + 2)) ?_ (fun b hb _ hb' => by have h : ((w.heap.size + 1 + 1 ≤ b ∧ b < w1.heap.size) ∧ b < w2.heap.size) ∨ wr.heap.size ≤ b := hb; have := hb'.2; omega)).mono (fun b hb => by have h : ((w.heap.size + 1 + 1 ≤ b ∧ b < w1.heap.size) ∧ b < w2.heap.size) ∨ wr.heap.size ≤ b := hb; omega)
              exact ((((Only.refl _ _).setCell m1 _).setCell m1 _).setCell m1 _).setCell m1 _
            · exact ((((Only.refl _ _).setCell m1 _).setCell m1 _).setCell m1 _).setCell m1 _
end Go.Proofs.Ytmeiobpeacdfjaa
