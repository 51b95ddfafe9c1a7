/- Contracts for laws.markPool, which writes marks into a pool of one's own, and laws.heldPool, which finds them. Conditions: at most 2^20 of everything. -/
import Derived.Test.YtmpgmjnagpiijaaPool
import Derived.Test.YtmpgmjnagpiijaaTreeMark
namespace Go.Proofs.Ytmpgmjnagpiijaa
open Go.RowKit
set_option maxRecDepth 100000
set_option linter.unusedSimpArgs false
set_option linter.unusedVariables false

def kAg (k : Int) (d : PoolD) : Int := markEnd k d.lo d.ts
def kCe (k : Int) (d : PoolD) : Int := kAg k d + (d.ag.length * 2 : Nat)
def kVo (k : Int) (d : PoolD) : Int := kCe k d + (d.ce.length * 3 : Nat)
def endP (k : Int) (d : PoolD) : Int := kVo k d + (d.vo.length * 4 : Nat)
def markP (k : Int) (d : PoolD) : PoolD := ⟨mkI k d.lo, mkT (k + (d.lo.length : Nat)) d.ts, mkL mG sG (kAg k d) d.ag d.ag.length, mkL mCel sCel (kCe k d) d.ce d.ce.length, mkL mVol sVol (kVo k d) d.vo d.vo.length, d.nx⟩
theorem k_le {k : Int} {d : PoolD} (hs : SmallP d) (h0 : 0 ≤ k) (h1 : k ≤ 274877906944) : 0 ≤ kAg k d ∧ kAg k d ≤ 549755813888 ∧ 0 ≤ kCe k d ∧ kCe k d ≤ 1099511627776 ∧ 0 ≤ kVo k d ∧ kVo k d ≤ 1099511627776 ∧ 0 ≤ endP k d ∧ endP k d ≤ 1099511627776 := by
  have h := markEnd_le hs.t h0 h1
  have := hs.2.1
  have := hs.2.2.1
  have := hs.2.2.2
  unfold endP kVo kCe kAg
  omega
set_option maxHeartbeats 1000000 in
theorem markPool_any {t : TypeId} (vl vn va vc vv : Value) (S : Nat → Prop) (d : PoolD) (k : Int) (w : World) (h : PoolC t w S vl vn va vc vv d) (hS : ∀ b, S b → b < w.heap.size) (hs : SmallP d) (h0 : 0 ≤ k) (h1 : k ≤ 274877906944) :
    Calls Try.prog 10 #[.agg #[vl, vn, va, vc, vv, .int .i64 d.nx], .int .i64 k] w fun e w' => e = .returned (.int .i64 (endP k d)) ∧ PoolC t w' S vl vn va vc vv (markP k d) ∧ Only S w w' := by
  obtain ⟨A0, c0, A1, c1, A2, c2, A3, c3, A4, c4, rfl, rfl, rfl, rfl, rfl⟩ := h.reads.shape
  obtain ⟨P, Q, R, T, p1, p2, p3, p4, p5, p6, p7, g1, g2, g3, g4⟩ := h
  have hk := k_le hs h0 h1
  have s2 := hs.2.1
  have s3 := hs.2.2.1
  have s4 := hs.2.2.2
  have HB := Lib.hid (bal1 w (.cells #[.slice A0 d.lo.length c0, .slice A1 d.ts.length c1, .slice A2 d.ag.length c2, .slice A3 d.ce.length c3, .slice A4 d.vo.length c4, .int .i64 d.nx] 30))
  have Q0 := Lib.hid (al1 w (.cells #[.slice A0 d.lo.length c0, .slice A1 d.ts.length c1, .slice A2 d.ag.length c2, .slice A3 d.ce.length c3, .slice A4 d.vo.length c4, .int .i64 d.nx] 30))
  have HM := Lib.hid (markTree_any (.slice A0 d.lo.length c0) (.slice A1 d.ts.length c1) P d.lo d.ts k _ (g1.on HB.out) (fun b hb => by have := hS b (p1 b hb); have := HB.out.size; omega) hs.t h0 h1)
  have O2 := Lib.hid (g2.on HB.out)
  have O3 := Lib.hid (g3.on HB.out)
  have O4 := Lib.hid (g4.on HB.out)
  have p56 := Lib.hid p5
  have p66 := Lib.hid p6
  have p76 := Lib.hid p7
  have HSS := Lib.hid hS
  have HP := Lib.hid (And.intro p1 (And.intro p2 (And.intro p3 p4)))
  obtain ⟨ka, hka⟩ : ∃ x, markEnd k d.lo d.ts = x := ⟨_, rfl⟩
  obtain ⟨kc, hkc⟩ : ∃ x, kCe k d = x := ⟨_, rfl⟩
  obtain ⟨kv, hkv⟩ : ∃ x, kVo k d = x := ⟨_, rfl⟩
  obtain ⟨ke, hke⟩ : ∃ x, endP k d = x := ⟨_, rfl⟩
  have hmp : markP k d = ⟨mkI k d.lo, mkT (k + (d.lo.length : Nat)) d.ts, mkL mG sG ka d.ag d.ag.length, mkL mCel sCel kc d.ce d.ce.length, mkL mVol sVol kv d.vo d.vo.length, d.nx⟩ := by unfold markP kAg; rw [hka, hkc, hkv]
  rw [hke, hmp]
  rw [hka] at HM
  have e1 : ka + (d.ag.length * 2 : Nat) = kc := by rw [← hkc, ← hka]; rfl
  have e2 : kc + (d.ce.length * 3 : Nat) = kv := by rw [← hkv, ← hkc]; rfl
  have e3 : kv + (d.vo.length * 4 : Nat) = ke := by rw [← hke, ← hkv]; rfl
  have K1 : 0 ≤ ka ∧ ka ≤ 1125899906842624 := by have := hk.1; have := hk.2.1; unfold kAg at *; omega
  have K2 : 0 ≤ kc ∧ kc ≤ 1125899906842624 := by omega
  have K3 : 0 ≤ kv ∧ kv ≤ 1125899906842624 := by omega
  have E1 := Lib.hid e1
  have E2 := Lib.hid e2
  have E3 := Lib.hid e3
  clear g1 g2 g3 g4 hka hkc hkv hke hmp e1 e2 e3 hk p5 p6 p7 hS p1 p2 p3 p4
  go_enter Try.func10, Try.ntmps10
  go_upto_region 1 with (fail)
  generalize w.alloc (.cells #[.slice A0 d.lo.length c0, .slice A1 d.ts.length c1, .slice A2 d.ag.length c2, .slice A3 d.ce.length c3, .slice A4 d.vo.length c4, .int .i64 d.nx] 30) = W at *
  obtain ⟨x0, x1, x2, x3, x4, x5, x6⟩ := boxP Q0.out
  go_wp2_with fail
  refine HM.out.mono ?_
  rintro e w1 ⟨rfl, o, g⟩
  clear x0 x1 x2 x3 x4 x5 x6 HM
  replace Q0 := Lib.hid (box_only Q0.out g (fun h => by have := HSS.out _ (HP.out.1 _ h); omega))
  replace O2 := Lib.hid (O2.out.far g (fun b hb _ hb' => (p56.out b hb').1 hb))
  replace O3 := Lib.hid (O3.out.far g (fun b hb _ hb' => (p56.out b hb').2.1 hb))
  replace O4 := Lib.hid (O4.out.far g (fun b hb _ hb' => (p56.out b hb').2.2 hb))
  have O1 := Lib.hid o
  replace HB := Lib.hid ((Only.of_below HB.out S).trans (g.mono HP.out.1))
  clear o g
  have HM := Lib.hid (markAgeS_any _ Q d.ag ka _ O2.out (by omega) K1.1 K1.2)
  obtain ⟨x0, x1, x2, x3, x4, x5, x6⟩ := boxP Q0.out
  go_wp2_with fail
  refine HM.out.mono ?_
  rintro e w2 ⟨rfl, o, g⟩
  clear x0 x1 x2 x3 x4 x5 x6 HM
  rw [E1.out]
  replace Q0 := Lib.hid (box_only Q0.out g (fun h => by have := HSS.out _ (HP.out.2.1 _ h); omega))
  replace O1 := Lib.hid (O1.out.far g (fun b hb _ hb' => (p56.out b hb).1 hb'))
  replace O3 := Lib.hid (O3.out.far g (fun b hb _ hb' => (p66.out b hb').1 hb))
  replace O4 := Lib.hid (O4.out.far g (fun b hb _ hb' => (p66.out b hb').2 hb))
  replace O2 := Lib.hid o
  replace HB := Lib.hid (HB.out.trans (g.mono HP.out.2.1))
  clear o g
  have HM := Lib.hid (markCellS_any _ R d.ce kc _ O3.out (by omega) K2.1 K2.2)
  obtain ⟨x0, x1, x2, x3, x4, x5, x6⟩ := boxP Q0.out
  go_wp2_with fail
  refine HM.out.mono ?_
  rintro e w3 ⟨rfl, o, g⟩
  clear x0 x1 x2 x3 x4 x5 x6 HM
  rw [E2.out]
  replace Q0 := Lib.hid (box_only Q0.out g (fun h => by have := HSS.out _ (HP.out.2.2.1 _ h); omega))
  replace O1 := Lib.hid (O1.out.far g (fun b hb _ hb' => (p56.out b hb).2.1 hb'))
  replace O2 := Lib.hid (O2.out.far g (fun b hb _ hb' => (p66.out b hb).1 hb'))
  replace O4 := Lib.hid (O4.out.far g (fun b hb _ hb' => p76.out b hb' hb))
  replace O3 := Lib.hid o
  replace HB := Lib.hid (HB.out.trans (g.mono HP.out.2.2.1))
  clear o g
  have HM := Lib.hid (markVolS_any _ T d.vo kv _ O4.out (by omega) K3.1 K3.2)
  obtain ⟨x0, x1, x2, x3, x4, x5, x6⟩ := boxP Q0.out
  go_wp2_with fail
  refine HM.out.mono ?_
  rintro e w4 ⟨rfl, o, g⟩
  clear x0 x1 x2 x3 x4 x5 x6 HM
  rw [E3.out]
  replace Q0 := Lib.hid (box_only Q0.out g (fun h => by have := HSS.out _ (HP.out.2.2.2 _ h); omega))
  replace O1 := Lib.hid (O1.out.far g (fun b hb _ hb' => (p56.out b hb).2.2 hb'))
  replace O2 := Lib.hid (O2.out.far g (fun b hb _ hb' => (p66.out b hb).2 hb'))
  replace O3 := Lib.hid (O3.out.far g (fun b hb _ hb' => p76.out b hb hb'))
  replace O4 := Lib.hid o
  replace HB := Lib.hid (HB.out.trans (g.mono HP.out.2.2.2))
  clear o g
  go_wp2
  go_ret
  exact ⟨rfl, ⟨P, Q, R, T, HP.out.1, HP.out.2.1, HP.out.2.2.1, HP.out.2.2.2, p56.out, p66.out, p76.out, O1.out, O2.out, O3.out, O4.out⟩, HB.out⟩
set_option maxHeartbeats 1000000 in
theorem heldPool_any {t : TypeId} (vl vn va vc vv : Value) (d : PoolD) (k : Int) (w : World) (h : RdP t w w.heap.size vl vn va vc vv (markP k d)) (hs : SmallP d) (h0 : 0 ≤ k) (h1 : k ≤ 274877906944) :
    Calls Try.prog 11 #[.agg #[vl, vn, va, vc, vv, .int .i64 d.nx], .int .i64 k] w fun e w' => e = .returned (.int .i64 (endP k d)) ∧ Below w.heap.size w w' := by
  obtain ⟨A0, c0, A1, c1, A2, c2, A3, c3, A4, c4, rfl, rfl, rfl, rfl, rfl⟩ := h.shape
  have hk := k_le hs h0 h1
  have s2 := hs.2.1
  have s3 := hs.2.2.1
  have s4 := hs.2.2.2
  have l0 : (markP k d).lo.length = d.lo.length := mkL_length _ _ _ _ _
  have l1 : (markP k d).ts.length = d.ts.length := mkL_length _ _ _ _ _
  have l2 : (markP k d).ag.length = d.ag.length := mkL_length _ _ _ _ _
  have l3 : (markP k d).ce.length = d.ce.length := mkL_length _ _ _ _ _
  have l4 : (markP k d).vo.length = d.vo.length := mkL_length _ _ _ _ _
  rw [l0, l1, l2, l3, l4] at h ⊢
  obtain ⟨ka, hka⟩ : ∃ x, markEnd k d.lo d.ts = x := ⟨_, rfl⟩
  obtain ⟨kc, hkc⟩ : ∃ x, kCe k d = x := ⟨_, rfl⟩
  obtain ⟨kv, hkv⟩ : ∃ x, kVo k d = x := ⟨_, rfl⟩
  obtain ⟨ke, hke⟩ : ∃ x, endP k d = x := ⟨_, rfl⟩
  have hmp : markP k d = ⟨mkI k d.lo, mkT (k + (d.lo.length : Nat)) d.ts, mkL mG sG ka d.ag d.ag.length, mkL mCel sCel kc d.ce d.ce.length, mkL mVol sVol kv d.vo d.vo.length, d.nx⟩ := by unfold markP kAg; rw [hka, hkc, hkv]
  rw [hke]
  rw [hmp] at h
  have e1 : ka + (d.ag.length * 2 : Nat) = kc := by rw [← hkc, ← hka]; rfl
  have e2 : kc + (d.ce.length * 3 : Nat) = kv := by rw [← hkv, ← hkc]; rfl
  have e3 : kv + (d.vo.length * 4 : Nat) = ke := by rw [← hke, ← hkv]; rfl
  have K1 : 0 ≤ ka ∧ ka ≤ 1125899906842624 := by have := hk.1; have := hk.2.1; unfold kAg at *; omega
  have K2 : 0 ≤ kc ∧ kc ≤ 1125899906842624 := by omega
  have K3 : 0 ≤ kv ∧ kv ≤ 1125899906842624 := by omega
  have HT := Lib.hid (fun W b => heldTree_any (.slice A0 d.lo.length c0) (.slice A1 d.ts.length c1) d.lo d.ts k W (h.1.on b) hs.t h0 h1)
  have HA := Lib.hid (fun W b => heldAgeS_any (.slice A2 d.ag.length c2) d.ag ka W (h.2.1.on b) (by omega) K1.1 K1.2)
  have HC := Lib.hid (fun W b => heldCellS_any (.slice A3 d.ce.length c3) d.ce kc W (h.2.2.1.on b) (by omega) K2.1 K2.2)
  have HV := Lib.hid (fun W b => heldVolS_any (.slice A4 d.vo.length c4) d.vo kv W (h.2.2.2.on b) (by omega) K3.1 K3.2)
  rw [hka] at HT
  rw [e1] at HA
  rw [e2] at HC
  rw [e3] at HV
  have d1 : decide (ka < 0) = false := decide_eq_false (by omega)
  have d2 : decide (kc < 0) = false := decide_eq_false (by omega)
  have d3 : decide (kv < 0) = false := decide_eq_false (by omega)
  have d4 : decide (ke < 0) = false := decide_eq_false (by omega)
  have HB := Lib.hid (bal1 w (.cells #[.slice A0 d.lo.length c0, .slice A1 d.ts.length c1, .slice A2 d.ag.length c2, .slice A3 d.ce.length c3, .slice A4 d.vo.length c4, .int .i64 d.nx] 30))
  have Q0 := Lib.hid (al1 w (.cells #[.slice A0 d.lo.length c0, .slice A1 d.ts.length c1, .slice A2 d.ag.length c2, .slice A3 d.ce.length c3, .slice A4 d.vo.length c4, .int .i64 d.nx] 30))
  clear h hs hk s2 s3 s4 l0 l1 l2 l3 l4 hka hkc hkv hke hmp e1 e2 e3 K1 K2 K3
  go_enter Try.func11, Try.ntmps11
  go_upto_region 1 with (fail)
  generalize w.alloc (.cells #[.slice A0 d.lo.length c0, .slice A1 d.ts.length c1, .slice A2 d.ag.length c2, .slice A3 d.ce.length c3, .slice A4 d.vo.length c4, .int .i64 d.nx] 30) = W at *
  obtain ⟨x0, x1, x2, x3, x4, x5, x6⟩ := boxP Q0.out
  go_wp2_with fail
  refine (HT.out _ HB.out).mono ?_
  rintro e w1 ⟨rfl, b1⟩
  clear x0 x1 x2 x3 x4 x5 x6
  replace HB := Lib.hid (bstep HB.out b1)
  replace Q0 := Lib.hid (box_on Q0.out b1)
  obtain ⟨x0, x1, x2, x3, x4, x5, x6⟩ := boxP Q0.out
  clear b1
  go_wp2_with fail
  refine (HA.out _ HB.out).mono ?_
  rintro e w1 ⟨rfl, rfl⟩
  go_wp2_with fail
  refine (HC.out _ HB.out).mono ?_
  rintro e w1 ⟨rfl, rfl⟩
  go_wp2_with fail
  refine (HV.out _ HB.out).mono ?_
  rintro e w1 ⟨rfl, b1⟩
  clear x0 x1 x2 x3 x4 x5 x6
  replace HB := Lib.hid (bstep HB.out b1)
  replace Q0 := Lib.hid (box_on Q0.out b1)
  obtain ⟨x0, x1, x2, x3, x4, x5, x6⟩ := boxP Q0.out
  clear b1
  go_wp2
  go_ret
  exact ⟨rfl, HB.out⟩
end Go.Proofs.Ytmpgmjnagpiijaa
