/- The walk of FnNodes: at every code the call returns true and writes nothing that was there. No condition. -/
import Derived.Test.YtncjedbdkanleaaDrawNode2
import Derived.Test.YtncjedbdkanleaaNodesMath
namespace Go.Proofs.Ytncjedbdkanleaa
open Go.RowKit
set_option maxRecDepth 100000
set_option linter.unusedSimpArgs false
set_option linter.unusedVariables false

theorem box_setsN {w : World} {p : Nat} {t : TypeId} {z1 z2 z3 z4 z5 u1 u2 u3 u4 u5 : Value} (h : w.heap[p]? = some (.cells #[z1, z2, z3, z4, z5] t (0, 0))) : (((((w.setCell ⟨p, 0, none⟩ u1).setCell ⟨p, 1, none⟩ u2).setCell ⟨p, 2, none⟩ u3).setCell ⟨p, 3, none⟩ u4).setCell ⟨p, 4, none⟩ u5).heap[p]? = some (.cells #[u1, u2, u3, u4, u5] t (0, 0)) :=
  heap_setCell_same _ _ _ _ _ _ (heap_setCell_same _ _ _ _ _ _ (heap_setCell_same _ _ _ _ _ _ (heap_setCell_same _ _ _ _ _ _ (heap_setCell_same _ _ _ _ _ _ h))))
theorem at_put_self {ns : List (List KeyD)} {x : KeyD} (h : FineN ns) (hx : okK x = true) (hok : putNB ns x = true) : (nodeAtK (putN ns x) x.a x.b).isSome = (x.c != 0) ∧ ((x.c != 0) = true → (nodeAtK (putN ns x) x.a x.b).getD zK = x) := by
  rw [at_putN h hx hok, if_pos ⟨rfl, rfl⟩]
  show (if x.c = 0 then none else some x : Option KeyD).isSome = _ ∧ (_ → (if x.c = 0 then none else some x : Option KeyD).getD zK = x)
  by_cases h0 : x.c = 0
  · simp [h0]
  · simp [h0]
theorem at_put_other {ns : List (List KeyD)} {x y : KeyD} (h : FineN ns) (hx : okK x = true) (hok : putNB ns x = true) (hy : y ∈ nodeKeysK ns) (hs : spotB y.a y.b x.a x.b = false) : (nodeAtK (putN ns x) y.a y.b).isSome = true ∧ (nodeAtK (putN ns x) y.a y.b).getD zK = y := by
  have hn : ¬ (x.a = y.a ∧ x.b = y.b) := fun e => by
    have : spotB y.a y.b x.a x.b = true := (spotB_iff _ _ _ _).2 ⟨e.1.symm, e.2.symm⟩
    rw [this] at hs; cases hs
  rw [at_putN h hx hok, if_neg hn, key_there h hy]
  exact ⟨rfl, rfl⟩
set_option maxHeartbeats 20000000 in
theorem nodes_walk (a0 : Option Addr) (len0 cap0 : Nat) (z0 : List Int) (w : World) (w0 : CameIn .u8 w a0 len0 cap0 z0) :
    Calls Try.prog 3 #[.slice a0 len0 cap0] w fun e w' => e = .returned (.bool true) ∧ Below w.heap.size w w' := by
  obtain ⟨l, rfl, hr⟩ := w0.rd
  clear w0
  by_cases hbig : l.length ≤ 1048576
  · have d0 : decide ((1048576 : Int) < (l.length : Int)) = false := decide_eq_false (by omega)
    have HDN := Lib.hid (drawNode_any a0 cap0 l w hr hbig)
    have HPI := Lib.hid implNodePut_any
    have HAT := Lib.hid implNodeAt_any
    have HSP := Lib.hid implSameSpot_any
    unfold DNode KeyD.v keyV at HDN
    unfold PutsN KeyD.v keyV at HPI
    unfold SaysFind KeyD.v keyV at HAT
    unfold keyV at HSP
    clear hr
    go_enter Try.func3, Try.ntmps3
    go_wp2_with fail
    refine (big_any _ _ _ _).mono ?_
    rintro r w1 ⟨rfl, rfl⟩
    rw [d0]
    clear d0
    go_wp2_with fail
    refine HDN.out.mono ?_
    rintro r w1 ⟨vN, ns, x, rfl, oN, hok, hxk, bd⟩
    obtain ⟨An, cn, rfl, _, _⟩ := oN.reads.lenN
    have hsm := okN_small hok
    have FN := fine_of hok
    have hkl := nodeKeys_len ns
    have HSN : Hid (SmallN ns) := Lib.hid ⟨by omega, by omega⟩
    have ba := bal2 w1 (.cells #[.slice An ns.length cn] 26) (.cells #[.int .i64 x.a, .int .i64 x.b, .int .i64 x.c, .int .i64 x.d, .int .i64 x.e] 28)
    obtain ⟨q0, q1⟩ := al2 w1 (.cells #[.slice An ns.length cn] 26) (.cells #[.int .i64 x.a, .int .i64 x.b, .int .i64 x.c, .int .i64 x.d, .int .i64 x.e] 28)
    have QN := Lib.hid q0
    have QK := Lib.hid q1
    have ON := Lib.hid (oN.on ba)
    have BB := Lib.hid (bstep bd ba)
    clear oN bd ba q0 q1 HDN
    go_upto_region 4 with (fail)
    generalize (w1.alloc (.cells #[.slice An ns.length cn] 26)).alloc (.cells #[.int .i64 x.a, .int .i64 x.b, .int .i64 x.c, .int .i64 x.d, .int .i64 x.e] 28) = W at *
    obtain ⟨X, hX⟩ : ∃ X, putN ns x = X := ⟨_, rfl⟩
    obtain ⟨OK, hOK⟩ : ∃ OK, putNB ns x = OK := ⟨_, rfl⟩
    have hps := putN_small (ns := ns) (k := x) (m := 8) (by omega) (by omega)
    rw [hX] at hps
    have HSX : Hid (SmallN X) := Lib.hid ⟨by omega, by omega⟩
    have HX := Lib.hid hX
    have HOKB := Lib.hid hOK
    have FULL : Hid (OK = false → X = ns ∧ 8 ≤ (nodeKeysK ns).length) := Lib.hid (fun h => by rw [← hX]; exact putN_full FN hxk (by rw [hOK, h]))
    have SELF : Hid (OK = true → (nodeAtK X x.a x.b).isSome = (x.c != 0) ∧ ((x.c != 0) = true → (nodeAtK X x.a x.b).getD zK = x)) := Lib.hid (fun h => by rw [← hX]; exact at_put_self FN hxk (by rw [hOK, h]))
    have OTHER : Hid (OK = true → ∀ y ∈ nodeKeysK ns, spotB y.a y.b x.a x.b = false → (nodeAtK X y.a y.b).isSome = true ∧ (nodeAtK X y.a y.b).getD zK = y) := Lib.hid (fun h y hy hs => by rw [← hX]; exact at_put_other FN hxk (by rw [hOK, h]) hy hs)
    have XOK : Hid (OK = true → nodeOkB X = true) := Lib.hid (fun h => by rw [← hX]; exact putN_ok (by rw [hOK, h]))
    obtain ⟨KK, hKK⟩ : ∃ KK, nodeKeysK ns = KK := ⟨_, rfl⟩
    rw [hKK] at hkl FULL OTHER
    have HKK := Lib.hid hKK
    clear hX hOK hKK FN hxk hok
    obtain ⟨n0, n1⟩ := box1N QN.out
    obtain ⟨k0, k1, k2, k3, k4, k5⟩ := box5 QK.out
    go_wp2_with fail
    refine (HPI.out _ ns x _ ON.out.reads (by omega) (by omega)).mono ?_
    rintro r w2 ⟨vX, rfl, oX, bd⟩
    rw [HX.out] at oX
    rw [HOKB.out]
    obtain ⟨Ax, cx, rfl, _, _⟩ := oX.reads.lenN
    have ba := bstep bd (bal1 w2 (.cells #[.slice Ax X.length cx] 26))
    have OX := Lib.hid (oX.on (bal1 w2 (.cells #[.slice Ax X.length cx] 26)))
    have QX := Lib.hid (al1 w2 (.cells #[.slice Ax X.length cx] 26))
    replace QN := Lib.hid (box_on QN.out ba)
    replace QK := Lib.hid (box_on QK.out ba)
    replace ON := Lib.hid (ON.out.on ba)
    replace BB := Lib.hid (bstep BB.out ba)
    clear oX bd ba n0 n1 k0 k1 k2 k3 k4 k5 HX HOKB
    go_upto_region 5 with (fail)
    generalize w2.alloc (.cells #[.slice Ax X.length cx] 26) = W2 at *
    cases OK
    · obtain ⟨hXn, h8⟩ := FULL.out rfl
      subst hXn
      clear FULL SELF OTHER XOK HAT HSP HPI
      have d8 : decide ((8 : Int) ≤ (KK.length : Int)) = true := decide_eq_true (by omega)
      obtain ⟨n0, n1⟩ := box1N QN.out
      obtain ⟨x0, x1⟩ := box1N QX.out
      go_wp2_with fail
      refine (sameNode_same _ _ X _ OX.out.reads ON.out.reads HSX.out).mono ?_
      rintro r w3 ⟨rfl, bd⟩
      replace QN := Lib.hid (box_on QN.out bd)
      replace ON := Lib.hid (ON.out.on bd)
      replace BB := Lib.hid (bstep BB.out bd)
      clear n0 n1 x0 x1 bd
      obtain ⟨n0, n1⟩ := box1N QN.out
      go_wp2_with fail
      refine (implNodeKeys_any _ X _ ON.out.reads (by omega) (by omega)).mono ?_
      rintro r w4 ⟨vK, rfl, oK, bd⟩
      rw [HKK.out] at oK
      obtain ⟨Ak, ck, rfl, _, _⟩ := oK.shape
      replace BB := Lib.hid (bstep BB.out bd)
      clear n0 n1 bd oK
      go_wp2
      go_ret
      exact ⟨rfl, BB.out⟩
    · have hself := SELF.out rfl
      replace OTHER := Lib.hid (OTHER.out rfl)
      have hxok := XOK.out rfl
      have HXOK := Lib.hid hxok
      have hpk := pack_ok hxok
      have hpl := pack_len X
      have hpkk := pack_keys X
      have hkx := nodeKeys_len X
      obtain ⟨PK, hPK⟩ : ∃ PK, nodePackK X = PK := ⟨_, rfl⟩
      rw [hPK] at hpk hpl hpkk
      have hpsm := okN_small hpk
      have HPKOK := Lib.hid hpk
      have HPK := Lib.hid hPK
      have HSP2 : Hid (SmallN PK) := Lib.hid ⟨by omega, by omega⟩
      obtain ⟨KX, hKX⟩ : ∃ KX, nodeKeysK X = KX := ⟨_, rfl⟩
      rw [hKX] at hpkk hkx
      have HKX := Lib.hid hKX
      have HKP := Lib.hid hpkk
      have dl : decide ((PK.length : Int) ≤ 1) = true := decide_eq_true (by omega)
      obtain ⟨YB, hYB⟩ : ∃ YB, (nodeAtK X x.a x.b).isSome = YB := ⟨_, rfl⟩
      obtain ⟨YK, hYK⟩ : ∃ YK, (nodeAtK X x.a x.b).getD zK = YK := ⟨_, rfl⟩
      rw [hYB, hYK] at hself
      have HYB := Lib.hid hYB
      have HYK := Lib.hid hYK
      have HSELF := Lib.hid hself
      clear FULL SELF XOK HPI hxok hpk hPK hpkk hKX hYB hYK hself
      obtain ⟨x0, x1⟩ := box1N QX.out
      obtain ⟨k0, k1, k2, k3, k4, k5⟩ := box5 QK.out
      go_wp2_with fail
      refine (HAT.out _ X x.a x.b _ OX.out.reads HSX.out).mono ?_
      rintro r w3 ⟨rfl, bd⟩
      rw [HYB.out, HYK.out]
      have ba := bstep bd (bal1 w3 (.cells #[.int .i64 YK.a, .int .i64 YK.b, .int .i64 YK.c, .int .i64 YK.d, .int .i64 YK.e] 28))
      have QY := Lib.hid (al1 w3 (.cells #[.int .i64 YK.a, .int .i64 YK.b, .int .i64 YK.c, .int .i64 YK.d, .int .i64 YK.e] 28))
      replace QN := Lib.hid (box_on QN.out ba)
      replace QK := Lib.hid (box_on QK.out ba)
      replace QX := Lib.hid (box_on QX.out ba)
      replace ON := Lib.hid (ON.out.on ba)
      replace OX := Lib.hid (OX.out.on ba)
      replace BB := Lib.hid (bstep BB.out ba)
      clear ba bd x0 x1 k0 k1 k2 k3 k4 k5 HYB HYK
      go_upto_region 8 with (fail)
      generalize w3.alloc (.cells #[.int .i64 YK.a, .int .i64 YK.b, .int .i64 YK.c, .int .i64 YK.d, .int .i64 YK.e] 28) = W3 at *
      obtain ⟨n0, n1⟩ := box1N QN.out
      go_wp2_with fail
      refine (implNodeKeys_any _ ns _ ON.out.reads (by omega) (by omega)).mono ?_
      rintro r W0 ⟨vK, rfl, oK, bd⟩
      rw [HKK.out] at oK
      obtain ⟨Ak, ck, rfl, _, _⟩ := oK.shape
      have OKK := Lib.hid oK.owns
      replace QY := Lib.hid (box_on QY.out bd)
      replace QK := Lib.hid (box_on QK.out bd)
      replace QX := Lib.hid (box_on QX.out bd)
      replace OX := Lib.hid (OX.out.on bd)
      replace BB := Lib.hid (bstep BB.out bd)
      clear n0 n1 oK bd QN ON HKK
      go_wp2
      go_loopw [10] (fun i wr => ∃ k : Nat, k ≤ KK.length ∧ i = .int .i64 k ∧ Hid (Below W0.heap.size W0 wr)) (fun i _ => KK.length - (intOf i).toNat)
      case atStart => exact ⟨0, Nat.zero_le _, rfl, Lib.hid (Below.refl _ _)⟩
      case round =>
        obtain ⟨k, hk, rfl, HBr⟩ := hrel
        by_cases hlt : k < KK.length
        · obtain ⟨bm, om, rfl, hbb, hc⟩ := OKK.out.reads.keys hlt
          have HF := hc k hlt
          have hmem : KK[k] ∈ KK := List.getElem_mem hlt
          have FM := Lib.hid (fun V (h : Below wr.heap.size wr V) => HF.keep ((HBr.out.trans (h.mono HBr.out.size)).block bm hbb))
          have HOT := OTHER.out KK[k] hmem
          generalize KK[k] = y at HOT FM
          obtain ⟨zk, hzk⟩ : ∃ z, (nodeAtK X y.a y.b).getD zK = z := ⟨_, rfl⟩
          obtain ⟨zb, hzb⟩ : ∃ z, (nodeAtK X y.a y.b).isSome = z := ⟨_, rfl⟩
          rw [hzk, hzb] at HOT
          have HZK := Lib.hid hzk
          have HZB := Lib.hid hzb
          have HOTH := Lib.hid HOT
          have QXr := Lib.hid (box_on QX.out HBr.out)
          have QKr := Lib.hid (box_on QK.out HBr.out)
          have OXr := Lib.hid (OX.out.on HBr.out)
          have i1 : (k : Int) < (KK.length : Int) := by omega
          have i2 : (0 : Int) ≤ (k : Int) := by omega
          clear hzk hzb HOT hmem HF hc
          go_upto_region 12 with (fail)
          go_cut [11, 12] (fun s8 s9 W1 => ∃ pb, s8 = .pointer (some ⟨pb, 0, none⟩) ∧ s9 = .bool zb ∧ Hid (W1.heap[pb]? = some (.cells #[.int .i64 zk.a, .int .i64 zk.b, .int .i64 zk.c, .int .i64 zk.d, .int .i64 zk.e] 28)) ∧ Hid (Below wr.heap.size wr W1))
          case first =>
            refine but_begin (f := 17) (S := fun V => Below wr.drew.heap.size wr.drew V) (by kernel_rfl) ?_
            refine but_take (f := 17) (i := 0) (v := ?vc0) rfl (by kernel_rfl) (by kernel_rfl) (by kernel_rfl) (by kernel_rfl) (by kernel_rfl) (fun _ _ _ h => h) (Or.inl ⟨(by rfl), ?hyc0⟩) (Below.refl _ _) ?restc0
            case hyc0 =>
              intro W hW
              have hb0 : Below wr.heap.size wr W := bstep (Below.drew1 _) hW
              obtain ⟨x0, x1⟩ := box1N (box_on QXr.out hb0)
              go_simp
              exact rfl
            simp only [List.getElem_toArray, List.getElem_cons_succ, List.getElem_cons_zero, Act.put, List.setIfInBounds_toArray, List.set_cons_zero, List.set_cons_succ]
            refine but_take (f := 17) (i := 1) (v := ?vc1) rfl (by kernel_rfl) (by kernel_rfl) (by kernel_rfl) (by kernel_rfl) (by kernel_rfl) (fun _ _ _ h => h) (Or.inl ⟨(by rfl), ?hyc1⟩) (Below.refl _ _) ?restc1
            case hyc1 =>
              intro W hW
              go_simp
              exact rfl
            simp only [List.getElem_toArray, List.getElem_cons_succ, List.getElem_cons_zero, Act.put, List.setIfInBounds_toArray, List.set_cons_zero, List.set_cons_succ]
            refine but_take (f := 17) (i := 2) (v := ?vc2) rfl (by kernel_rfl) (by kernel_rfl) (by kernel_rfl) (by kernel_rfl) (by kernel_rfl) (fun _ _ _ h => h) (Or.inl ⟨(by rfl), ?hyc2⟩) (Below.refl _ _) ?restc2
            case hyc2 =>
              intro W hW
              go_simp
              exact rfl
            simp only [List.getElem_toArray, List.getElem_cons_succ, List.getElem_cons_zero, Act.put, List.setIfInBounds_toArray, List.set_cons_zero, List.set_cons_succ]
            refine but_take (f := 17) (i := 3) (v := ?vc3) rfl (by kernel_rfl) (by kernel_rfl) (by kernel_rfl) (by kernel_rfl) (by kernel_rfl) (fun _ _ _ h => h) (Or.inl ⟨(by rfl), ?hyc3⟩) (Below.refl _ _) ?restc3
            case hyc3 =>
              intro W hW
              go_simp
              exact rfl
            simp only [List.getElem_toArray, List.getElem_cons_succ, List.getElem_cons_zero, Act.put, List.setIfInBounds_toArray, List.set_cons_zero, List.set_cons_succ]
            refine but_take (f := 17) (i := 4) (v := ?vc4) rfl (by kernel_rfl) (by kernel_rfl) (by kernel_rfl) (by kernel_rfl) (by kernel_rfl) (fun _ _ _ h => h) (Or.inl ⟨(by rfl), ?hyc4⟩) (Below.refl _ _) ?restc4
            case hyc4 =>
              intro W hW
              go_simp
              exact rfl
            simp only [List.getElem_toArray, List.getElem_cons_succ, List.getElem_cons_zero, Act.put, List.setIfInBounds_toArray, List.set_cons_zero, List.set_cons_succ]
            refine but_take (f := 17) (i := 5) (v := ?vc5) rfl (by kernel_rfl) (by kernel_rfl) (by kernel_rfl) (by kernel_rfl) (by kernel_rfl) (fun _ _ _ h => h) (Or.inl ⟨(by rfl), ?hyc5⟩) (Below.refl _ _) ?restc5
            case hyc5 =>
              intro W hW
              have hb0 : Below wr.heap.size wr W := bstep (Below.drew1 _) hW
              obtain ⟨m0, m1, m2, m3, m4⟩ := FM.out _ hb0
              go_simp
              exact rfl
            simp only [List.getElem_toArray, List.getElem_cons_succ, List.getElem_cons_zero, Act.put, List.setIfInBounds_toArray, List.set_cons_zero, List.set_cons_succ]
            refine but_take (f := 17) (i := 6) (v := ?vc6) rfl (by kernel_rfl) (by kernel_rfl) (by kernel_rfl) (by kernel_rfl) (by kernel_rfl) (fun _ _ _ h => h) (Or.inl ⟨(by rfl), ?hyc6⟩) (Below.refl _ _) ?restc6
            case hyc6 =>
              intro W hW
              go_simp
              exact rfl
            simp only [List.getElem_toArray, List.getElem_cons_succ, List.getElem_cons_zero, Act.put, List.setIfInBounds_toArray, List.set_cons_zero, List.set_cons_succ]
            refine but_take (f := 17) (i := 7) (v := ?vc7) rfl (by kernel_rfl) (by kernel_rfl) (by kernel_rfl) (by kernel_rfl) (by kernel_rfl) (fun _ _ _ h => h) (Or.inl ⟨(by rfl), ?hyc7⟩) (Below.refl _ _) ?restc7
            case hyc7 =>
              intro W hW
              go_simp
              exact rfl
            simp only [List.getElem_toArray, List.getElem_cons_succ, List.getElem_cons_zero, Act.put, List.setIfInBounds_toArray, List.set_cons_zero, List.set_cons_succ]
            refine but_take (f := 17) (i := 8) (v := ?vc8) rfl (by kernel_rfl) (by kernel_rfl) (by kernel_rfl) (by kernel_rfl) (by kernel_rfl) (fun _ _ _ h => h) (Or.inl ⟨(by rfl), ?hyc8⟩) (Below.refl _ _) ?restc8
            case hyc8 =>
              intro W hW
              go_simp
              exact rfl
            simp only [List.getElem_toArray, List.getElem_cons_succ, List.getElem_cons_zero, Act.put, List.setIfInBounds_toArray, List.set_cons_zero, List.set_cons_succ]
            refine but_take (f := 17) (i := 9) (v := ?vc9) rfl (by kernel_rfl) (by kernel_rfl) (by kernel_rfl) (by kernel_rfl) (by kernel_rfl) (fun _ _ _ h => h) (Or.inl ⟨(by rfl), ?hyc9⟩) (Below.refl _ _) ?restc9
            case hyc9 =>
              intro W hW
              go_simp
              exact rfl
            simp only [List.getElem_toArray, List.getElem_cons_succ, List.getElem_cons_zero, Act.put, List.setIfInBounds_toArray, List.set_cons_zero, List.set_cons_succ]
            refine but_take (f := 17) (i := 10) (v := ?vc10) rfl (by kernel_rfl) (by kernel_rfl) (by kernel_rfl) (by kernel_rfl) (by kernel_rfl) (fun _ _ _ h => h) (Or.inl ⟨(by rfl), ?hyc10⟩) (Below.refl _ _) ?restc10
            case hyc10 =>
              intro W hW
              have hb0 : Below wr.heap.size wr W := bstep (Below.drew1 _) hW
              obtain ⟨m0, m1, m2, m3, m4⟩ := FM.out _ hb0
              go_simp
              exact rfl
            simp only [List.getElem_toArray, List.getElem_cons_succ, List.getElem_cons_zero, Act.put, List.setIfInBounds_toArray, List.set_cons_zero, List.set_cons_succ]
            refine but_two (i := 11) (j := 15) (by kernel_rfl) rfl rfl (by rfl) (by rfl) ?_ ?_
            · simp only [List.getElem_toArray, List.getElem_cons_succ, List.getElem_cons_zero]
              intro K HK
              go_wp2_with fail
              refine (HAT.out _ X y.a y.b _ (OXr.out.on (Below.drew1 _)).reads HSX.out).mono ?_
              rintro r Vcp1 ⟨rfl, hBcp1⟩
              rw [HZB.out, HZK.out]
              have hScp1 := bstep (Below.refl _ _) hBcp1
              go_wp2_with fail
              refine HK.out _ Vcp1 (fun _ => hScp1) ?_
              clear HK
              refine but_take (f := 17) (i := 12) (v := ?vcp12) rfl (by kernel_rfl) (by kernel_rfl) (by kernel_rfl) (by kernel_rfl) (by kernel_rfl) (fun _ _ _ h => h) (Or.inl ⟨(by rfl), ?hycp12⟩) hScp1 ?restcp12
              case hycp12 =>
                intro W hW
                go_simp
                exact rfl
              simp only [List.getElem_toArray, List.getElem_cons_succ, List.getElem_cons_zero, Act.put, List.setIfInBounds_toArray, List.set_cons_zero, List.set_cons_succ]
              refine but_take (f := 17) (i := 13) (v := ?vcp13) rfl (by kernel_rfl) (by kernel_rfl) (by kernel_rfl) (by kernel_rfl) (by kernel_rfl) (fun _ _ _ h => h) (Or.inl ⟨(by rfl), ?hycp13⟩) hScp1 ?restcp13
              case hycp13 =>
                intro W hW
                go_simp
                exact rfl
              simp only [List.getElem_toArray, List.getElem_cons_succ, List.getElem_cons_zero, Act.put, List.setIfInBounds_toArray, List.set_cons_zero, List.set_cons_succ]
              refine but_take (f := 17) (i := 14) (v := ?vcp14) rfl (by kernel_rfl) (by kernel_rfl) (by kernel_rfl) (by kernel_rfl) (by kernel_rfl) (fun _ _ _ h => h) (Or.inl ⟨(by rfl), ?hycp14⟩) hScp1 ?restcp14
              case hycp14 =>
                intro W hW
                go_simp
                exact rfl
              simp only [List.getElem_toArray, List.getElem_cons_succ, List.getElem_cons_zero, Act.put, List.setIfInBounds_toArray, List.set_cons_zero, List.set_cons_succ]
              refine but_run (i := 15) (by kernel_rfl) rfl (by rfl) ?_
              simp only [List.getElem_toArray, List.getElem_cons_succ, List.getElem_cons_zero]
              intro K HK
              have hScp2 : Below wr.drew.heap.size wr.drew (Vcp1.alloc (.cells #[.int .i64 0, .int .i64 0, .int .i64 0, .int .i64 0, .int .i64 0] 28)) := bstep hScp1 (bal1 _ _)
              go_wp2_with fail
              refine HK.out _ (Vcp1.alloc (.cells #[.int .i64 0, .int .i64 0, .int .i64 0, .int .i64 0, .int .i64 0] 28)) (fun _ => hScp2) ?_
              clear HK
              refine but_run (i := 16) (by kernel_rfl) rfl (by rfl) ?_
              simp only [List.getElem_toArray, List.getElem_cons_succ, List.getElem_cons_zero]
              intro K HK
              have hScp3 : Below wr.drew.heap.size wr.drew (Vcp1.alloc (.cells #[.int .i64 zk.a, .int .i64 zk.b, .int .i64 zk.c, .int .i64 zk.d, .int .i64 zk.e] 28)) := bstep hScp1 (bal1 _ _)
              go_wp2_with fail
              refine HK.out _ (Vcp1.alloc (.cells #[.int .i64 zk.a, .int .i64 zk.b, .int .i64 zk.c, .int .i64 zk.d, .int .i64 zk.e] 28)) (fun _ => hScp3) ?_
              clear HK
              refine but_run (i := 17) (by kernel_rfl) rfl (by rfl) ?_
              simp only [List.getElem_toArray, List.getElem_cons_succ, List.getElem_cons_zero]
              intro K HK
              go_wp2_with fail
              refine HK.out _ (Vcp1.alloc (.cells #[.int .i64 zk.a, .int .i64 zk.b, .int .i64 zk.c, .int .i64 zk.d, .int .i64 zk.e] 28)) (fun h => absurd rfl h) ?_
              clear HK
              refine but_done (by kernel_rfl) ?_
              go_wp2_with fail
              go_meet
              exact ⟨_, rfl, rfl, Lib.hid (al1 Vcp1 (.cells #[.int .i64 zk.a, .int .i64 zk.b, .int .i64 zk.c, .int .i64 zk.d, .int .i64 zk.e] 28)), Lib.hid (bstep (Below.drew1 _) hScp3)⟩
            · simp only [List.getElem_toArray, List.getElem_cons_succ, List.getElem_cons_zero]
              intro K HK
              have hScq1 : Below wr.drew.heap.size wr.drew (wr.drew.alloc (.cells #[.int .i64 0, .int .i64 0, .int .i64 0, .int .i64 0, .int .i64 0] 28)) := bal1 _ _
              go_wp2_with fail
              refine HK.out _ (wr.drew.alloc (.cells #[.int .i64 0, .int .i64 0, .int .i64 0, .int .i64 0, .int .i64 0] 28)) (fun _ => hScq1) ?_
              clear HK
              refine but_run (i := 11) (by kernel_rfl) rfl (by rfl) ?_
              simp only [List.getElem_toArray, List.getElem_cons_succ, List.getElem_cons_zero]
              intro K HK
              go_wp2_with fail
              refine (HAT.out _ X y.a y.b _ (OXr.out.on (bstep (Below.drew1 _) hScq1)).reads HSX.out).mono ?_
              rintro r Vcq2 ⟨rfl, hBcq2⟩
              rw [HZB.out, HZK.out]
              have hScq2 := bstep hScq1 hBcq2
              go_wp2_with fail
              refine HK.out _ Vcq2 (fun _ => hScq2) ?_
              clear HK
              refine but_take (f := 17) (i := 12) (v := ?vcq12) rfl (by kernel_rfl) (by kernel_rfl) (by kernel_rfl) (by kernel_rfl) (by kernel_rfl) (fun _ _ _ h => h) (Or.inl ⟨(by rfl), ?hycq12⟩) hScq2 ?restcq12
              case hycq12 =>
                intro W hW
                go_simp
                exact rfl
              simp only [List.getElem_toArray, List.getElem_cons_succ, List.getElem_cons_zero, Act.put, List.setIfInBounds_toArray, List.set_cons_zero, List.set_cons_succ]
              refine but_take (f := 17) (i := 13) (v := ?vcq13) rfl (by kernel_rfl) (by kernel_rfl) (by kernel_rfl) (by kernel_rfl) (by kernel_rfl) (fun _ _ _ h => h) (Or.inl ⟨(by rfl), ?hycq13⟩) hScq2 ?restcq13
              case hycq13 =>
                intro W hW
                go_simp
                exact rfl
              simp only [List.getElem_toArray, List.getElem_cons_succ, List.getElem_cons_zero, Act.put, List.setIfInBounds_toArray, List.set_cons_zero, List.set_cons_succ]
              refine but_take (f := 17) (i := 14) (v := ?vcq14) rfl (by kernel_rfl) (by kernel_rfl) (by kernel_rfl) (by kernel_rfl) (by kernel_rfl) (fun _ _ _ h => h) (Or.inl ⟨(by rfl), ?hycq14⟩) hScq2 ?restcq14
              case hycq14 =>
                intro W hW
                go_simp
                exact rfl
              simp only [List.getElem_toArray, List.getElem_cons_succ, List.getElem_cons_zero, Act.put, List.setIfInBounds_toArray, List.set_cons_zero, List.set_cons_succ]
              have qz : Vcq2.heap[wr.heap.size]? = some (.cells #[.int .i64 0, .int .i64 0, .int .i64 0, .int .i64 0, .int .i64 0] 28) := box_on (al1 wr.drew (.cells #[.int .i64 0, .int .i64 0, .int .i64 0, .int .i64 0, .int .i64 0] 28)) hBcq2
              refine but_run (i := 16) (by kernel_rfl) rfl (by rfl) ?_
              simp only [List.getElem_toArray, List.getElem_cons_succ, List.getElem_cons_zero]
              intro K HK
              obtain ⟨z0, z1, z2, z3, z4, z5⟩ := box5 qz
              have hScq3 : Below wr.drew.heap.size wr.drew (((((Vcq2.setCell ⟨wr.heap.size, 0, none⟩ (.int .i64 zk.a)).setCell ⟨wr.heap.size, 1, none⟩ (.int .i64 zk.b)).setCell ⟨wr.heap.size, 2, none⟩ (.int .i64 zk.c)).setCell ⟨wr.heap.size, 3, none⟩ (.int .i64 zk.d)).setCell ⟨wr.heap.size, 4, none⟩ (.int .i64 zk.e)) := b5' hScq2 (Nat.le_refl _)
              go_wp2_with fail
              refine HK.out _ (((((Vcq2.setCell ⟨wr.heap.size, 0, none⟩ (.int .i64 zk.a)).setCell ⟨wr.heap.size, 1, none⟩ (.int .i64 zk.b)).setCell ⟨wr.heap.size, 2, none⟩ (.int .i64 zk.c)).setCell ⟨wr.heap.size, 3, none⟩ (.int .i64 zk.d)).setCell ⟨wr.heap.size, 4, none⟩ (.int .i64 zk.e)) (fun _ => hScq3) ?_
              clear HK
              refine but_run (i := 17) (by kernel_rfl) rfl (by rfl) ?_
              simp only [List.getElem_toArray, List.getElem_cons_succ, List.getElem_cons_zero]
              intro K HK
              go_wp2_with fail
              refine HK.out _ (((((Vcq2.setCell ⟨wr.heap.size, 0, none⟩ (.int .i64 zk.a)).setCell ⟨wr.heap.size, 1, none⟩ (.int .i64 zk.b)).setCell ⟨wr.heap.size, 2, none⟩ (.int .i64 zk.c)).setCell ⟨wr.heap.size, 3, none⟩ (.int .i64 zk.d)).setCell ⟨wr.heap.size, 4, none⟩ (.int .i64 zk.e)) (fun h => absurd rfl h) ?_
              clear HK
              refine but_done (by kernel_rfl) ?_
              go_wp2_with fail
              go_meet
              exact ⟨_, rfl, rfl, Lib.hid (box_setsN qz), Lib.hid (bstep (Below.drew1 _) hScq3)⟩
          case rest =>
            obtain ⟨pb, rfl, rfl, QZ, HX1⟩ := hcut
            obtain ⟨W1, rfl⟩ : ∃ W, W = wc := ⟨_, rfl⟩
            replace FM := Lib.hid (fun V (h : Below W1.heap.size W1 V) => FM.out V (bstep HX1.out h))
            replace QKr := Lib.hid (box_on QKr.out HX1.out)
            have HB1 := Lib.hid (HBr.out.trans (HX1.out.mono HBr.out.size))
            clear HX1 QXr OXr HBr HZK HZB
            obtain ⟨SP, hSP⟩ : ∃ SP, spotB y.a y.b x.a x.b = SP := ⟨_, rfl⟩
            rw [hSP] at HOTH
            have HSPe := Lib.hid hSP
            clear hSP
            cases SP
            · obtain ⟨hz1, hz2⟩ := HOTH.out rfl
              subst hz1 hz2
              clear HOTH
              go_upto_region 13 with (fail)
              refine but_begin (f := 18) (S := fun V => Below W1.heap.size W1 V) (by kernel_rfl) ?_
              refine but_take (f := 18) (i := 0) (v := ?ve0) rfl (by kernel_rfl) (by kernel_rfl) (by kernel_rfl) (by kernel_rfl) (by kernel_rfl) (fun _ _ _ h => h) (Or.inl ⟨(by rfl), ?hye0⟩) (Below.drew1 _) ?reste0
              case hye0 =>
                intro W hW
                go_simp
                exact rfl
              simp only [List.getElem_toArray, List.getElem_cons_succ, List.getElem_cons_zero, Act.put, List.setIfInBounds_toArray, List.set_cons_zero, List.set_cons_succ]
              refine but_take (f := 18) (i := 1) (v := ?ve1) rfl (by kernel_rfl) (by kernel_rfl) (by kernel_rfl) (by kernel_rfl) (by kernel_rfl) (fun _ _ _ h => h) (Or.inl ⟨(by rfl), ?hye1⟩) (Below.drew1 _) ?reste1
              case hye1 =>
                intro W hW
                go_simp
                exact rfl
              simp only [List.getElem_toArray, List.getElem_cons_succ, List.getElem_cons_zero, Act.put, List.setIfInBounds_toArray, List.set_cons_zero, List.set_cons_succ]
              refine but_take (f := 18) (i := 2) (v := ?ve2) rfl (by kernel_rfl) (by kernel_rfl) (by kernel_rfl) (by kernel_rfl) (by kernel_rfl) (fun _ _ _ h => h) (Or.inl ⟨(by rfl), ?hye2⟩) (Below.drew1 _) ?reste2
              case hye2 =>
                intro W hW
                go_simp
                exact rfl
              simp only [List.getElem_toArray, List.getElem_cons_succ, List.getElem_cons_zero, Act.put, List.setIfInBounds_toArray, List.set_cons_zero, List.set_cons_succ]
              refine but_take (f := 18) (i := 3) (v := ?ve3) rfl (by kernel_rfl) (by kernel_rfl) (by kernel_rfl) (by kernel_rfl) (by kernel_rfl) (fun _ _ _ h => h) (Or.inl ⟨(by rfl), ?hye3⟩) (Below.drew1 _) ?reste3
              case hye3 =>
                intro W hW
                obtain ⟨m0, m1, m2, m3, m4⟩ := FM.out _ hW
                go_simp
                exact rfl
              simp only [List.getElem_toArray, List.getElem_cons_succ, List.getElem_cons_zero, Act.put, List.setIfInBounds_toArray, List.set_cons_zero, List.set_cons_succ]
              refine but_take (f := 18) (i := 4) (v := ?ve4) rfl (by kernel_rfl) (by kernel_rfl) (by kernel_rfl) (by kernel_rfl) (by kernel_rfl) (fun _ _ _ h => h) (Or.inl ⟨(by rfl), ?hye4⟩) (Below.drew1 _) ?reste4
              case hye4 =>
                intro W hW
                obtain ⟨k0, k1, k2, k3, k4, k5⟩ := box5 (box_on QKr.out hW)
                go_simp
                exact rfl
              simp only [List.getElem_toArray, List.getElem_cons_succ, List.getElem_cons_zero, Act.put, List.setIfInBounds_toArray, List.set_cons_zero, List.set_cons_succ]
              refine but_run (i := 5) (by kernel_rfl) rfl (by rfl) ?_
              simp only [List.getElem_toArray, List.getElem_cons_succ, List.getElem_cons_zero]
              intro K HK
              go_wp2_with fail
              refine (HSP.out _ _ _ _ _ _ _ _ _ _ _).mono ?_
              rintro r Ve1 ⟨rfl, hbe1⟩
              rw [HSPe.out]
              go_wp2_with fail
              have hSe1 : (fun V => Below W1.heap.size W1 V) Ve1 := bstep (Below.drew1 _) hbe1
              refine HK.out _ _ (fun _ => hSe1) ?_
              clear HK
              refine but_take (f := 18) (i := 6) (v := ?ve6) rfl (by kernel_rfl) (by kernel_rfl) (by kernel_rfl) (by kernel_rfl) (by kernel_rfl) (fun _ _ _ h => h) (Or.inl ⟨(by rfl), ?hye6⟩) hSe1 ?reste6
              case hye6 =>
                intro W hW
                go_simp
                exact rfl
              simp only [List.getElem_toArray, List.getElem_cons_succ, List.getElem_cons_zero, Act.put, List.setIfInBounds_toArray, List.set_cons_zero, List.set_cons_succ]
              refine but_take (f := 18) (i := 7) (v := ?ve7) rfl (by kernel_rfl) (by kernel_rfl) (by kernel_rfl) (by kernel_rfl) (by kernel_rfl) (fun _ _ _ h => h) (Or.inl ⟨(by rfl), ?hye7⟩) hSe1 ?reste7
              case hye7 =>
                intro W hW
                go_simp
                exact rfl
              simp only [List.getElem_toArray, List.getElem_cons_succ, List.getElem_cons_zero, Act.put, List.setIfInBounds_toArray, List.set_cons_zero, List.set_cons_succ]
              refine but_take (f := 18) (i := 8) (v := ?ve8) rfl (by kernel_rfl) (by kernel_rfl) (by kernel_rfl) (by kernel_rfl) (by kernel_rfl) (fun _ _ _ h => h) (Or.inl ⟨((wanted_at rfl rfl rfl rfl).trans rfl), ?hye8⟩) hSe1 ?reste8
              case hye8 =>
                intro W hW
                go_simp
                exact rfl
              simp only [List.getElem_toArray, List.getElem_cons_succ, List.getElem_cons_zero, Act.put, List.setIfInBounds_toArray, List.set_cons_zero, List.set_cons_succ]
              refine but_take (f := 18) (i := 9) (v := ?ve9) rfl (by kernel_rfl) (by kernel_rfl) (by kernel_rfl) (by kernel_rfl) (by kernel_rfl) (fun _ _ _ h => h) (Or.inl ⟨((wanted_at rfl rfl rfl rfl).trans rfl), ?hye9⟩) hSe1 ?reste9
              case hye9 =>
                intro W hW
                go_simp
                exact rfl
              simp only [List.getElem_toArray, List.getElem_cons_succ, List.getElem_cons_zero, Act.put, List.setIfInBounds_toArray, List.set_cons_zero, List.set_cons_succ]
              refine but_take (f := 18) (i := 10) (v := ?ve10) rfl (by kernel_rfl) (by kernel_rfl) (by kernel_rfl) (by kernel_rfl) (by kernel_rfl) (fun _ _ _ h => h) (Or.inl ⟨((wanted_at rfl rfl rfl rfl).trans rfl), ?hye10⟩) hSe1 ?reste10
              case hye10 =>
                intro W hW
                go_simp
                exact rfl
              simp only [List.getElem_toArray, List.getElem_cons_succ, List.getElem_cons_zero, Act.put, List.setIfInBounds_toArray, List.set_cons_zero, List.set_cons_succ]
              refine but_take (f := 18) (i := 11) (v := ?ve11) rfl (by kernel_rfl) (by kernel_rfl) (by kernel_rfl) (by kernel_rfl) (by kernel_rfl) (fun _ _ _ h => h) (Or.inl ⟨((wanted_at rfl rfl rfl rfl).trans rfl), ?hye11⟩) hSe1 ?reste11
              case hye11 =>
                intro W hW
                obtain ⟨z0, z1, z2, z3, z4, z5⟩ := box5 (box_on QZ.out hW)
                go_simp
                exact rfl
              simp only [List.getElem_toArray, List.getElem_cons_succ, List.getElem_cons_zero, Act.put, List.setIfInBounds_toArray, List.set_cons_zero, List.set_cons_succ]
              refine but_take (f := 18) (i := 12) (v := ?ve12) rfl (by kernel_rfl) (by kernel_rfl) (by kernel_rfl) (by kernel_rfl) (by kernel_rfl) (fun _ _ _ h => h) (Or.inl ⟨((wanted_at rfl rfl rfl rfl).trans rfl), ?hye12⟩) hSe1 ?reste12
              case hye12 =>
                intro W hW
                go_simp
                exact rfl
              simp only [List.getElem_toArray, List.getElem_cons_succ, List.getElem_cons_zero, Act.put, List.setIfInBounds_toArray, List.set_cons_zero, List.set_cons_succ]
              refine but_take (f := 18) (i := 13) (v := ?ve13) rfl (by kernel_rfl) (by kernel_rfl) (by kernel_rfl) (by kernel_rfl) (by kernel_rfl) (fun _ _ _ h => h) (Or.inl ⟨((wanted_at rfl rfl rfl rfl).trans rfl), ?hye13⟩) hSe1 ?reste13
              case hye13 =>
                intro W hW
                go_simp
                exact rfl
              simp only [List.getElem_toArray, List.getElem_cons_succ, List.getElem_cons_zero, Act.put, List.setIfInBounds_toArray, List.set_cons_zero, List.set_cons_succ]
              refine but_take (f := 18) (i := 14) (v := ?ve14) rfl (by kernel_rfl) (by kernel_rfl) (by kernel_rfl) (by kernel_rfl) (by kernel_rfl) (fun _ _ _ h => h) (Or.inl ⟨((wanted_at rfl rfl rfl rfl).trans rfl), ?hye14⟩) hSe1 ?reste14
              case hye14 =>
                intro W hW
                go_simp
                exact rfl
              simp only [List.getElem_toArray, List.getElem_cons_succ, List.getElem_cons_zero, Act.put, List.setIfInBounds_toArray, List.set_cons_zero, List.set_cons_succ]
              refine but_take (f := 18) (i := 15) (v := ?ve15) rfl (by kernel_rfl) (by kernel_rfl) (by kernel_rfl) (by kernel_rfl) (by kernel_rfl) (fun _ _ _ h => h) (Or.inl ⟨((wanted_at rfl rfl rfl rfl).trans rfl), ?hye15⟩) hSe1 ?reste15
              case hye15 =>
                intro W hW
                obtain ⟨m0, m1, m2, m3, m4⟩ := FM.out _ hW
                go_simp
                exact rfl
              simp only [List.getElem_toArray, List.getElem_cons_succ, List.getElem_cons_zero, Act.put, List.setIfInBounds_toArray, List.set_cons_zero, List.set_cons_succ]
              refine but_take (f := 18) (i := 16) (v := ?ve16) rfl (by kernel_rfl) (by kernel_rfl) (by kernel_rfl) (by kernel_rfl) (by kernel_rfl) (fun _ _ _ h => h) (Or.inl ⟨((wanted_at rfl rfl rfl rfl).trans rfl), ?hye16⟩) hSe1 ?reste16
              case hye16 =>
                intro W hW
                go_simp
                exact rfl
              simp only [List.getElem_toArray, List.getElem_cons_succ, List.getElem_cons_zero, Act.put, List.setIfInBounds_toArray, List.set_cons_zero, List.set_cons_succ]
              refine but_take (f := 18) (i := 17) (v := ?ve17) rfl (by kernel_rfl) (by kernel_rfl) (by kernel_rfl) (by kernel_rfl) (by kernel_rfl) (fun _ _ _ h => h) (Or.inl ⟨((wanted_at rfl rfl rfl rfl).trans rfl), ?hye17⟩) hSe1 ?reste17
              case hye17 =>
                intro W hW
                go_simp
                exact rfl
              simp only [List.getElem_toArray, List.getElem_cons_succ, List.getElem_cons_zero, Act.put, List.setIfInBounds_toArray, List.set_cons_zero, List.set_cons_succ]
              refine but_run (i := 18) (by kernel_rfl) rfl (by rfl) ?_
              simp only [List.getElem_toArray, List.getElem_cons_succ, List.getElem_cons_zero]
              intro K HK
              go_wp2_with fail
              refine HK.out _ _ (fun h => absurd rfl h) ?_
              clear HK
              refine but_done (by kernel_rfl) ?_
              have HB2 := Lib.hid (HB1.out.trans (hSe1.mono HB1.out.size))
              go_wp2
              go_roundw
              case rel => exact ⟨k + 1, by omega, by go_num, HB2⟩
              case measure => simp [intOf]; omega
            · clear HOTH
              go_upto_region 13 with (fail)
              refine but_begin (f := 18) (S := fun V => Below W1.heap.size W1 V) (by kernel_rfl) ?_
              refine but_take (f := 18) (i := 0) (v := ?vf0) rfl (by kernel_rfl) (by kernel_rfl) (by kernel_rfl) (by kernel_rfl) (by kernel_rfl) (fun _ _ _ h => h) (Or.inl ⟨(by rfl), ?hyf0⟩) (Below.drew1 _) ?restf0
              case hyf0 =>
                intro W hW
                go_simp
                exact rfl
              simp only [List.getElem_toArray, List.getElem_cons_succ, List.getElem_cons_zero, Act.put, List.setIfInBounds_toArray, List.set_cons_zero, List.set_cons_succ]
              refine but_take (f := 18) (i := 1) (v := ?vf1) rfl (by kernel_rfl) (by kernel_rfl) (by kernel_rfl) (by kernel_rfl) (by kernel_rfl) (fun _ _ _ h => h) (Or.inl ⟨(by rfl), ?hyf1⟩) (Below.drew1 _) ?restf1
              case hyf1 =>
                intro W hW
                go_simp
                exact rfl
              simp only [List.getElem_toArray, List.getElem_cons_succ, List.getElem_cons_zero, Act.put, List.setIfInBounds_toArray, List.set_cons_zero, List.set_cons_succ]
              refine but_take (f := 18) (i := 2) (v := ?vf2) rfl (by kernel_rfl) (by kernel_rfl) (by kernel_rfl) (by kernel_rfl) (by kernel_rfl) (fun _ _ _ h => h) (Or.inl ⟨(by rfl), ?hyf2⟩) (Below.drew1 _) ?restf2
              case hyf2 =>
                intro W hW
                go_simp
                exact rfl
              simp only [List.getElem_toArray, List.getElem_cons_succ, List.getElem_cons_zero, Act.put, List.setIfInBounds_toArray, List.set_cons_zero, List.set_cons_succ]
              refine but_take (f := 18) (i := 3) (v := ?vf3) rfl (by kernel_rfl) (by kernel_rfl) (by kernel_rfl) (by kernel_rfl) (by kernel_rfl) (fun _ _ _ h => h) (Or.inl ⟨(by rfl), ?hyf3⟩) (Below.drew1 _) ?restf3
              case hyf3 =>
                intro W hW
                obtain ⟨m0, m1, m2, m3, m4⟩ := FM.out _ hW
                go_simp
                exact rfl
              simp only [List.getElem_toArray, List.getElem_cons_succ, List.getElem_cons_zero, Act.put, List.setIfInBounds_toArray, List.set_cons_zero, List.set_cons_succ]
              refine but_take (f := 18) (i := 4) (v := ?vf4) rfl (by kernel_rfl) (by kernel_rfl) (by kernel_rfl) (by kernel_rfl) (by kernel_rfl) (fun _ _ _ h => h) (Or.inl ⟨(by rfl), ?hyf4⟩) (Below.drew1 _) ?restf4
              case hyf4 =>
                intro W hW
                obtain ⟨k0, k1, k2, k3, k4, k5⟩ := box5 (box_on QKr.out hW)
                go_simp
                exact rfl
              simp only [List.getElem_toArray, List.getElem_cons_succ, List.getElem_cons_zero, Act.put, List.setIfInBounds_toArray, List.set_cons_zero, List.set_cons_succ]
              refine but_run (i := 5) (by kernel_rfl) rfl (by rfl) ?_
              simp only [List.getElem_toArray, List.getElem_cons_succ, List.getElem_cons_zero]
              intro K HK
              go_wp2_with fail
              refine (HSP.out _ _ _ _ _ _ _ _ _ _ _).mono ?_
              rintro r Vf1 ⟨rfl, hbf1⟩
              rw [HSPe.out]
              go_wp2_with fail
              have hSf1 : (fun V => Below W1.heap.size W1 V) Vf1 := bstep (Below.drew1 _) hbf1
              refine HK.out _ _ (fun _ => hSf1) ?_
              clear HK
              refine but_take (f := 18) (i := 6) (v := ?vf6) rfl (by kernel_rfl) (by kernel_rfl) (by kernel_rfl) (by kernel_rfl) (by kernel_rfl) (fun _ _ _ h => h) (Or.inl ⟨(by rfl), ?hyf6⟩) hSf1 ?restf6
              case hyf6 =>
                intro W hW
                go_simp
                exact rfl
              simp only [List.getElem_toArray, List.getElem_cons_succ, List.getElem_cons_zero, Act.put, List.setIfInBounds_toArray, List.set_cons_zero, List.set_cons_succ]
              refine but_take (f := 18) (i := 7) (v := ?vf7) rfl (by kernel_rfl) (by kernel_rfl) (by kernel_rfl) (by kernel_rfl) (by kernel_rfl) (fun _ _ _ h => h) (Or.inl ⟨(by rfl), ?hyf7⟩) hSf1 ?restf7
              case hyf7 =>
                intro W hW
                go_simp
                exact rfl
              simp only [List.getElem_toArray, List.getElem_cons_succ, List.getElem_cons_zero, Act.put, List.setIfInBounds_toArray, List.set_cons_zero, List.set_cons_succ]
              refine but_take (f := 18) (i := 8) (v := undef) rfl (by kernel_rfl) (by kernel_rfl) (by kernel_rfl) (by kernel_rfl) (by kernel_rfl) (fun _ _ _ h => h) (Or.inr ⟨((wanted_at rfl rfl rfl rfl).trans rfl), rfl⟩) hSf1 ?_
              simp only [List.getElem_toArray, List.getElem_cons_succ, List.getElem_cons_zero, Act.put, List.setIfInBounds_toArray, List.set_cons_zero, List.set_cons_succ]
              refine but_take (f := 18) (i := 9) (v := undef) rfl (by kernel_rfl) (by kernel_rfl) (by kernel_rfl) (by kernel_rfl) (by kernel_rfl) (fun _ _ _ h => h) (Or.inr ⟨((wanted_at rfl rfl rfl rfl).trans rfl), rfl⟩) hSf1 ?_
              simp only [List.getElem_toArray, List.getElem_cons_succ, List.getElem_cons_zero, Act.put, List.setIfInBounds_toArray, List.set_cons_zero, List.set_cons_succ]
              refine but_take (f := 18) (i := 10) (v := undef) rfl (by kernel_rfl) (by kernel_rfl) (by kernel_rfl) (by kernel_rfl) (by kernel_rfl) (fun _ _ _ h => h) (Or.inr ⟨((wanted_at rfl rfl rfl rfl).trans rfl), rfl⟩) hSf1 ?_
              simp only [List.getElem_toArray, List.getElem_cons_succ, List.getElem_cons_zero, Act.put, List.setIfInBounds_toArray, List.set_cons_zero, List.set_cons_succ]
              refine but_take (f := 18) (i := 11) (v := undef) rfl (by kernel_rfl) (by kernel_rfl) (by kernel_rfl) (by kernel_rfl) (by kernel_rfl) (fun _ _ _ h => h) (Or.inr ⟨(wanted_un rfl rfl rfl rfl), rfl⟩) hSf1 ?_
              simp only [List.getElem_toArray, List.getElem_cons_succ, List.getElem_cons_zero, Act.put, List.setIfInBounds_toArray, List.set_cons_zero, List.set_cons_succ]
              refine but_take (f := 18) (i := 12) (v := undef) rfl (by kernel_rfl) (by kernel_rfl) (by kernel_rfl) (by kernel_rfl) (by kernel_rfl) (fun _ _ _ h => h) (Or.inr ⟨(wanted_un rfl rfl rfl rfl), rfl⟩) hSf1 ?_
              simp only [List.getElem_toArray, List.getElem_cons_succ, List.getElem_cons_zero, Act.put, List.setIfInBounds_toArray, List.set_cons_zero, List.set_cons_succ]
              refine but_take (f := 18) (i := 13) (v := undef) rfl (by kernel_rfl) (by kernel_rfl) (by kernel_rfl) (by kernel_rfl) (by kernel_rfl) (fun _ _ _ h => h) (Or.inr ⟨(wanted_un rfl rfl rfl rfl), rfl⟩) hSf1 ?_
              simp only [List.getElem_toArray, List.getElem_cons_succ, List.getElem_cons_zero, Act.put, List.setIfInBounds_toArray, List.set_cons_zero, List.set_cons_succ]
              refine but_take (f := 18) (i := 14) (v := undef) rfl (by kernel_rfl) (by kernel_rfl) (by kernel_rfl) (by kernel_rfl) (by kernel_rfl) (fun _ _ _ h => h) (Or.inr ⟨(wanted_un rfl rfl rfl rfl), rfl⟩) hSf1 ?_
              simp only [List.getElem_toArray, List.getElem_cons_succ, List.getElem_cons_zero, Act.put, List.setIfInBounds_toArray, List.set_cons_zero, List.set_cons_succ]
              refine but_take (f := 18) (i := 15) (v := undef) rfl (by kernel_rfl) (by kernel_rfl) (by kernel_rfl) (by kernel_rfl) (by kernel_rfl) (fun _ _ _ h => h) (Or.inr ⟨(wanted_un rfl rfl rfl rfl), rfl⟩) hSf1 ?_
              simp only [List.getElem_toArray, List.getElem_cons_succ, List.getElem_cons_zero, Act.put, List.setIfInBounds_toArray, List.set_cons_zero, List.set_cons_succ]
              refine but_take (f := 18) (i := 16) (v := undef) rfl (by kernel_rfl) (by kernel_rfl) (by kernel_rfl) (by kernel_rfl) (by kernel_rfl) (fun _ _ _ h => h) (Or.inr ⟨(wanted_un rfl rfl rfl rfl), rfl⟩) hSf1 ?_
              simp only [List.getElem_toArray, List.getElem_cons_succ, List.getElem_cons_zero, Act.put, List.setIfInBounds_toArray, List.set_cons_zero, List.set_cons_succ]
              refine but_take (f := 18) (i := 17) (v := undef) rfl (by kernel_rfl) (by kernel_rfl) (by kernel_rfl) (by kernel_rfl) (by kernel_rfl) (fun _ _ _ h => h) (Or.inr ⟨((wanted_at rfl rfl rfl rfl).trans rfl), rfl⟩) hSf1 ?_
              simp only [List.getElem_toArray, List.getElem_cons_succ, List.getElem_cons_zero, Act.put, List.setIfInBounds_toArray, List.set_cons_zero, List.set_cons_succ]
              refine but_run (i := 18) (by kernel_rfl) rfl (by rfl) ?_
              simp only [List.getElem_toArray, List.getElem_cons_succ, List.getElem_cons_zero]
              intro K HK
              go_wp2_with fail
              refine HK.out _ _ (fun h => absurd rfl h) ?_
              clear HK
              refine but_done (by kernel_rfl) ?_
              have HB2 := Lib.hid (HB1.out.trans (hSf1.mono HB1.out.size))
              go_wp2
              go_roundw
              case rel => exact ⟨k + 1, by omega, by go_num, HB2⟩
              case measure => simp [intOf]; omega
        · obtain ⟨x0, x1⟩ := box1N (box_on QX.out HBr.out)
          go_wp2_with fail
          refine (implNodePack_any _ X _ (OX.out.on HBr.out).reads (by omega) (by omega)).mono ?_
          rintro r w5 ⟨vP, rfl, oP, bd⟩
          rw [HPK.out] at oP
          obtain ⟨Ap, cp, rfl, _, _⟩ := oP.reads.lenN
          have ba := bstep (bstep HBr.out bd) (bal1 w5 (.cells #[.slice Ap PK.length cp] 26))
          have OP := Lib.hid (oP.on (bal1 w5 (.cells #[.slice Ap PK.length cp] 26)))
          have QP := Lib.hid (al1 w5 (.cells #[.slice Ap PK.length cp] 26))
          replace QX := Lib.hid (box_on QX.out ba)
          replace QK := Lib.hid (box_on QK.out ba)
          replace QY := Lib.hid (box_on QY.out ba)
          replace OX := Lib.hid (OX.out.on ba)
          replace BB := Lib.hid (bstep BB.out ba)
          clear oP bd ba x0 x1 OTHER OKK HBr HPK
          go_upto_region 16 with (fail)
          generalize w5.alloc (.cells #[.slice Ap PK.length cp] 26) = W6 at *
          obtain ⟨hs1, hs2⟩ := HSELF.out
          cases YB
          · have zc : (x.c != 0) = false := hs1.symm
            clear hs1 hs2 HSELF
            refine but_begin (f := 35) (S := fun V => Below W6.heap.size W6 V) (by kernel_rfl) ?_
            refine but_take (f := 35) (i := 0) (v := ?vg0) rfl (by kernel_rfl) (by kernel_rfl) (by kernel_rfl) (by kernel_rfl) (by kernel_rfl) (fun _ _ _ h => h) (Or.inl ⟨(by rfl), ?hyg0⟩) (Below.drew1 _) ?restg0
            case hyg0 =>
              intro W hW
              go_simp
              exact rfl
            simp only [List.getElem_toArray, List.getElem_cons_succ, List.getElem_cons_zero, Act.put, List.setIfInBounds_toArray, List.set_cons_zero, List.set_cons_succ]
            refine but_take (f := 35) (i := 1) (v := ?vg1) rfl (by kernel_rfl) (by kernel_rfl) (by kernel_rfl) (by kernel_rfl) (by kernel_rfl) (fun _ _ _ h => h) (Or.inl ⟨(by rfl), ?hyg1⟩) (Below.drew1 _) ?restg1
            case hyg1 =>
              intro W hW
              go_simp
              exact rfl
            simp only [List.getElem_toArray, List.getElem_cons_succ, List.getElem_cons_zero, Act.put, List.setIfInBounds_toArray, List.set_cons_zero, List.set_cons_succ]
            refine but_take (f := 35) (i := 2) (v := ?vg2) rfl (by kernel_rfl) (by kernel_rfl) (by kernel_rfl) (by kernel_rfl) (by kernel_rfl) (fun _ _ _ h => h) (Or.inl ⟨(by rfl), ?hyg2⟩) (Below.drew1 _) ?restg2
            case hyg2 =>
              intro W hW
              obtain ⟨k0, k1, k2, k3, k4, k5⟩ := box5 (box_on QK.out hW)
              go_simp
              exact rfl
            simp only [List.getElem_toArray, List.getElem_cons_succ, List.getElem_cons_zero, Act.put, List.setIfInBounds_toArray, List.set_cons_zero, List.set_cons_succ]
            refine but_take (f := 35) (i := 3) (v := ?vg3) rfl (by kernel_rfl) (by kernel_rfl) (by kernel_rfl) (by kernel_rfl) (by kernel_rfl) (fun _ _ _ h => h) (Or.inl ⟨(by rfl), ?hyg3⟩) (Below.drew1 _) ?restg3
            case hyg3 =>
              intro W hW
              go_simp
              exact rfl
            simp only [List.getElem_toArray, List.getElem_cons_succ, List.getElem_cons_zero, Act.put, List.setIfInBounds_toArray, List.set_cons_zero, List.set_cons_succ]
            refine but_take (f := 35) (i := 4) (v := ?vg4) rfl (by kernel_rfl) (by kernel_rfl) (by kernel_rfl) (by kernel_rfl) (by kernel_rfl) (fun _ _ _ h => h) (Or.inl ⟨(by rfl), ?hyg4⟩) (Below.drew1 _) ?restg4
            case hyg4 =>
              intro W hW
              go_simp
              exact rfl
            simp only [List.getElem_toArray, List.getElem_cons_succ, List.getElem_cons_zero, Act.put, List.setIfInBounds_toArray, List.set_cons_zero, List.set_cons_succ]
            refine but_take (f := 35) (i := 5) (v := ?vg5) rfl (by kernel_rfl) (by kernel_rfl) (by kernel_rfl) (by kernel_rfl) (by kernel_rfl) (fun _ _ _ h => h) (Or.inl ⟨(by rfl), ?hyg5⟩) (Below.drew1 _) ?restg5
            case hyg5 =>
              intro W hW
              go_simp
              exact rfl
            simp only [List.getElem_toArray, List.getElem_cons_succ, List.getElem_cons_zero, Act.put, List.setIfInBounds_toArray, List.set_cons_zero, List.set_cons_succ]
            refine but_take (f := 35) (i := 6) (v := ?vg6) rfl (by kernel_rfl) (by kernel_rfl) (by kernel_rfl) (by kernel_rfl) (by kernel_rfl) (fun _ _ _ h => h) (Or.inl ⟨((wanted_at rfl rfl rfl rfl).trans rfl), ?hyg6⟩) (Below.drew1 _) ?restg6
            case hyg6 =>
              intro W hW
              go_simp
              exact rfl
            simp only [List.getElem_toArray, List.getElem_cons_succ, List.getElem_cons_zero, Act.put, List.setIfInBounds_toArray, List.set_cons_zero, List.set_cons_succ]
            refine but_take (f := 35) (i := 7) (v := ?vg7) rfl (by kernel_rfl) (by kernel_rfl) (by kernel_rfl) (by kernel_rfl) (by kernel_rfl) (fun _ _ _ h => h) (Or.inl ⟨((wanted_at rfl rfl rfl rfl).trans rfl), ?hyg7⟩) (Below.drew1 _) ?restg7
            case hyg7 =>
              intro W hW
              go_simp
              exact rfl
            simp only [List.getElem_toArray, List.getElem_cons_succ, List.getElem_cons_zero, Act.put, List.setIfInBounds_toArray, List.set_cons_zero, List.set_cons_succ]
            refine but_take (f := 35) (i := 8) (v := ?vg8) rfl (by kernel_rfl) (by kernel_rfl) (by kernel_rfl) (by kernel_rfl) (by kernel_rfl) (fun _ _ _ h => h) (Or.inl ⟨((wanted_at rfl rfl rfl rfl).trans rfl), ?hyg8⟩) (Below.drew1 _) ?restg8
            case hyg8 =>
              intro W hW
              go_simp
              exact rfl
            simp only [List.getElem_toArray, List.getElem_cons_succ, List.getElem_cons_zero, Act.put, List.setIfInBounds_toArray, List.set_cons_zero, List.set_cons_succ]
            refine but_take (f := 35) (i := 9) (v := undef) rfl (by kernel_rfl) (by kernel_rfl) (by kernel_rfl) (by kernel_rfl) (by kernel_rfl) (fun _ _ _ h => h) (Or.inr ⟨((wanted_at rfl rfl rfl rfl).trans rfl), rfl⟩) (Below.drew1 _) ?_
            simp only [List.getElem_toArray, List.getElem_cons_succ, List.getElem_cons_zero, Act.put, List.setIfInBounds_toArray, List.set_cons_zero, List.set_cons_succ]
            refine but_take (f := 35) (i := 10) (v := undef) rfl (by kernel_rfl) (by kernel_rfl) (by kernel_rfl) (by kernel_rfl) (by kernel_rfl) (fun _ _ _ h => h) (Or.inr ⟨((wanted_at rfl rfl rfl rfl).trans rfl), rfl⟩) (Below.drew1 _) ?_
            simp only [List.getElem_toArray, List.getElem_cons_succ, List.getElem_cons_zero, Act.put, List.setIfInBounds_toArray, List.set_cons_zero, List.set_cons_succ]
            refine but_take (f := 35) (i := 11) (v := undef) rfl (by kernel_rfl) (by kernel_rfl) (by kernel_rfl) (by kernel_rfl) (by kernel_rfl) (fun _ _ _ h => h) (Or.inr ⟨((wanted_at rfl rfl rfl rfl).trans rfl), rfl⟩) (Below.drew1 _) ?_
            simp only [List.getElem_toArray, List.getElem_cons_succ, List.getElem_cons_zero, Act.put, List.setIfInBounds_toArray, List.set_cons_zero, List.set_cons_succ]
            refine but_take (f := 35) (i := 12) (v := ?vg12) rfl (by kernel_rfl) (by kernel_rfl) (by kernel_rfl) (by kernel_rfl) (by kernel_rfl) (fun _ _ _ h => h) (Or.inl ⟨((wanted_at rfl rfl rfl rfl).trans rfl), ?hyg12⟩) (Below.drew1 _) ?restg12
            case hyg12 =>
              intro W hW
              go_simp
              exact rfl
            simp only [List.getElem_toArray, List.getElem_cons_succ, List.getElem_cons_zero, Act.put, List.setIfInBounds_toArray, List.set_cons_zero, List.set_cons_succ]
            refine but_take (f := 35) (i := 13) (v := ?vg13) rfl (by kernel_rfl) (by kernel_rfl) (by kernel_rfl) (by kernel_rfl) (by kernel_rfl) (fun _ _ _ h => h) (Or.inl ⟨(by rfl), ?hyg13⟩) (Below.drew1 _) ?restg13
            case hyg13 =>
              intro W hW
              go_simp
              exact rfl
            simp only [List.getElem_toArray, List.getElem_cons_succ, List.getElem_cons_zero, Act.put, List.setIfInBounds_toArray, List.set_cons_zero, List.set_cons_succ]
            refine but_take (f := 35) (i := 14) (v := ?vg14) rfl (by kernel_rfl) (by kernel_rfl) (by kernel_rfl) (by kernel_rfl) (by kernel_rfl) (fun _ _ _ h => h) (Or.inl ⟨(by rfl), ?hyg14⟩) (Below.drew1 _) ?restg14
            case hyg14 =>
              intro W hW
              go_simp
              exact rfl
            simp only [List.getElem_toArray, List.getElem_cons_succ, List.getElem_cons_zero, Act.put, List.setIfInBounds_toArray, List.set_cons_zero, List.set_cons_succ]
            refine but_take (f := 35) (i := 15) (v := ?vg15) rfl (by kernel_rfl) (by kernel_rfl) (by kernel_rfl) (by kernel_rfl) (by kernel_rfl) (fun _ _ _ h => h) (Or.inl ⟨((wanted_at rfl rfl rfl rfl).trans rfl), ?hyg15⟩) (Below.drew1 _) ?restg15
            case hyg15 =>
              intro W hW
              obtain ⟨x0, x1⟩ := box1N (box_on QX.out hW)
              go_simp
              exact rfl
            simp only [List.getElem_toArray, List.getElem_cons_succ, List.getElem_cons_zero, Act.put, List.setIfInBounds_toArray, List.set_cons_zero, List.set_cons_succ]
            refine but_run (i := 16) (by kernel_rfl) rfl ((wanted_at rfl rfl rfl rfl).trans rfl) ?_
            simp only [List.getElem_toArray, List.getElem_cons_succ, List.getElem_cons_zero]
            intro K HK
            go_wp2_with fail
            refine (implNodeOk_any _ X _ (OX.out.on (Below.drew1 _)).reads HSX.out).mono ?_
            rintro r Vg1 ⟨rfl, hbg1⟩
            rw [HXOK.out]
            go_wp2_with fail
            have hSg1 : (fun V => Below W6.heap.size W6 V) Vg1 := bstep (Below.drew1 _) hbg1
            refine HK.out _ _ (fun _ => hSg1) ?_
            clear HK
            refine but_take (f := 35) (i := 17) (v := ?vg17) rfl (by kernel_rfl) (by kernel_rfl) (by kernel_rfl) (by kernel_rfl) (by kernel_rfl) (fun _ _ _ h => h) (Or.inl ⟨(by rfl), ?hyg17⟩) hSg1 ?restg17
            case hyg17 =>
              intro W hW
              go_simp
              exact rfl
            simp only [List.getElem_toArray, List.getElem_cons_succ, List.getElem_cons_zero, Act.put, List.setIfInBounds_toArray, List.set_cons_zero, List.set_cons_succ]
            refine but_take (f := 35) (i := 18) (v := ?vg18) rfl (by kernel_rfl) (by kernel_rfl) (by kernel_rfl) (by kernel_rfl) (by kernel_rfl) (fun _ _ _ h => h) (Or.inl ⟨(by rfl), ?hyg18⟩) hSg1 ?restg18
            case hyg18 =>
              intro W hW
              go_simp
              exact rfl
            simp only [List.getElem_toArray, List.getElem_cons_succ, List.getElem_cons_zero, Act.put, List.setIfInBounds_toArray, List.set_cons_zero, List.set_cons_succ]
            refine but_take (f := 35) (i := 19) (v := ?vg19) rfl (by kernel_rfl) (by kernel_rfl) (by kernel_rfl) (by kernel_rfl) (by kernel_rfl) (fun _ _ _ h => h) (Or.inl ⟨((wanted_at rfl rfl rfl rfl).trans rfl), ?hyg19⟩) hSg1 ?restg19
            case hyg19 =>
              intro W hW
              obtain ⟨p0, p1⟩ := box1N (box_on QP.out hW)
              go_simp
              exact rfl
            simp only [List.getElem_toArray, List.getElem_cons_succ, List.getElem_cons_zero, Act.put, List.setIfInBounds_toArray, List.set_cons_zero, List.set_cons_succ]
            refine but_run (i := 20) (by kernel_rfl) rfl ((wanted_at rfl rfl rfl rfl).trans rfl) ?_
            simp only [List.getElem_toArray, List.getElem_cons_succ, List.getElem_cons_zero]
            intro K HK
            go_wp2_with fail
            refine (implNodeOk_any _ PK _ (OP.out.on hSg1).reads HSP2.out).mono ?_
            rintro r Vg2 ⟨rfl, hbg2⟩
            rw [HPKOK.out]
            go_wp2_with fail
            have hSg2 : (fun V => Below W6.heap.size W6 V) Vg2 := bstep hSg1 hbg2
            refine HK.out _ _ (fun _ => hSg2) ?_
            clear HK
            refine but_take (f := 35) (i := 21) (v := ?vg21) rfl (by kernel_rfl) (by kernel_rfl) (by kernel_rfl) (by kernel_rfl) (by kernel_rfl) (fun _ _ _ h => h) (Or.inl ⟨(by rfl), ?hyg21⟩) hSg2 ?restg21
            case hyg21 =>
              intro W hW
              go_simp
              exact rfl
            simp only [List.getElem_toArray, List.getElem_cons_succ, List.getElem_cons_zero, Act.put, List.setIfInBounds_toArray, List.set_cons_zero, List.set_cons_succ]
            refine but_take (f := 35) (i := 22) (v := ?vg22) rfl (by kernel_rfl) (by kernel_rfl) (by kernel_rfl) (by kernel_rfl) (by kernel_rfl) (fun _ _ _ h => h) (Or.inl ⟨(by rfl), ?hyg22⟩) hSg2 ?restg22
            case hyg22 =>
              intro W hW
              go_simp
              exact rfl
            simp only [List.getElem_toArray, List.getElem_cons_succ, List.getElem_cons_zero, Act.put, List.setIfInBounds_toArray, List.set_cons_zero, List.set_cons_succ]
            refine but_take (f := 35) (i := 23) (v := ?vg23) rfl (by kernel_rfl) (by kernel_rfl) (by kernel_rfl) (by kernel_rfl) (by kernel_rfl) (fun _ _ _ h => h) (Or.inl ⟨((wanted_at rfl rfl rfl rfl).trans rfl), ?hyg23⟩) hSg2 ?restg23
            case hyg23 =>
              intro W hW
              obtain ⟨p0, p1⟩ := box1N (box_on QP.out hW)
              go_simp
              exact rfl
            simp only [List.getElem_toArray, List.getElem_cons_succ, List.getElem_cons_zero, Act.put, List.setIfInBounds_toArray, List.set_cons_zero, List.set_cons_succ]
            refine but_take (f := 35) (i := 25) (v := ?vg25) rfl (by kernel_rfl) (by kernel_rfl) (by kernel_rfl) (by kernel_rfl) (by kernel_rfl) (fun _ _ _ h => h) (Or.inl ⟨((wanted_at rfl rfl rfl rfl).trans rfl), ?hyg25⟩) hSg2 ?restg25
            case hyg25 =>
              intro W hW
              obtain ⟨x0, x1⟩ := box1N (box_on QX.out hW)
              go_simp
              exact rfl
            simp only [List.getElem_toArray, List.getElem_cons_succ, List.getElem_cons_zero, Act.put, List.setIfInBounds_toArray, List.set_cons_zero, List.set_cons_succ]
            refine but_run (i := 24) (by kernel_rfl) rfl ((wanted_at rfl rfl rfl rfl).trans rfl) ?_
            simp only [List.getElem_toArray, List.getElem_cons_succ, List.getElem_cons_zero]
            intro K HK
            go_wp2_with fail
            refine (implNodeKeys_any _ PK _ (OP.out.on hSg2).reads (by omega) (by omega)).mono ?_
            rintro r Vg3 ⟨vA, rfl, oA, hbg3⟩
            rw [HKP.out] at oA
            obtain ⟨AA, cA, rfl, _, _⟩ := oA.shape
            go_wp2_with fail
            have hSg3 : (fun V => Below W6.heap.size W6 V) Vg3 := bstep hSg2 hbg3
            refine HK.out _ _ (fun _ => hSg3) ?_
            clear HK
            have OA := Lib.hid oA.owns
            clear oA
            refine but_run (i := 26) (by kernel_rfl) rfl ((wanted_at rfl rfl rfl rfl).trans rfl) ?_
            simp only [List.getElem_toArray, List.getElem_cons_succ, List.getElem_cons_zero]
            intro K HK
            go_wp2_with fail
            refine (implNodeKeys_any _ X _ (OX.out.on hSg3).reads (by omega) (by omega)).mono ?_
            rintro r Vg4 ⟨vB, rfl, oB, hbg4⟩
            rw [HKX.out] at oB
            obtain ⟨AB, cB, rfl, _, _⟩ := oB.shape
            go_wp2_with fail
            have hSg4 : (fun V => Below W6.heap.size W6 V) Vg4 := bstep hSg3 hbg4
            refine HK.out _ _ (fun _ => hSg4) ?_
            clear HK
            have OB := Lib.hid oB.owns
            replace OA := Lib.hid (OA.out.on hbg4)
            clear oB
            refine but_run (i := 27) (by kernel_rfl) rfl ((wanted_at rfl rfl rfl rfl).trans rfl) ?_
            simp only [List.getElem_toArray, List.getElem_cons_succ, List.getElem_cons_zero]
            intro K HK
            go_wp2_with fail
            refine (sameKeysN _ _ KX _ OA.out.reads OB.out.reads (by omega)).mono ?_
            rintro r Vg5 ⟨rfl, hbg5⟩
            go_wp2_with fail
            have hSg5 : (fun V => Below W6.heap.size W6 V) Vg5 := bstep hSg4 hbg5
            refine HK.out _ _ (fun _ => hSg5) ?_
            clear HK
            refine but_take (f := 35) (i := 28) (v := ?vg28) rfl (by kernel_rfl) (by kernel_rfl) (by kernel_rfl) (by kernel_rfl) (by kernel_rfl) (fun _ _ _ h => h) (Or.inl ⟨(by rfl), ?hyg28⟩) hSg5 ?restg28
            case hyg28 =>
              intro W hW
              go_simp
              exact rfl
            simp only [List.getElem_toArray, List.getElem_cons_succ, List.getElem_cons_zero, Act.put, List.setIfInBounds_toArray, List.set_cons_zero, List.set_cons_succ]
            refine but_take (f := 35) (i := 29) (v := ?vg29) rfl (by kernel_rfl) (by kernel_rfl) (by kernel_rfl) (by kernel_rfl) (by kernel_rfl) (fun _ _ _ h => h) (Or.inl ⟨(by rfl), ?hyg29⟩) hSg5 ?restg29
            case hyg29 =>
              intro W hW
              go_simp
              exact rfl
            simp only [List.getElem_toArray, List.getElem_cons_succ, List.getElem_cons_zero, Act.put, List.setIfInBounds_toArray, List.set_cons_zero, List.set_cons_succ]
            refine but_take (f := 35) (i := 30) (v := ?vg30) rfl (by kernel_rfl) (by kernel_rfl) (by kernel_rfl) (by kernel_rfl) (by kernel_rfl) (fun _ _ _ h => h) (Or.inl ⟨((wanted_at rfl rfl rfl rfl).trans rfl), ?hyg30⟩) hSg5 ?restg30
            case hyg30 =>
              intro W hW
              go_simp
              exact rfl
            simp only [List.getElem_toArray, List.getElem_cons_succ, List.getElem_cons_zero, Act.put, List.setIfInBounds_toArray, List.set_cons_zero, List.set_cons_succ]
            refine but_take (f := 35) (i := 31) (v := ?vg31) rfl (by kernel_rfl) (by kernel_rfl) (by kernel_rfl) (by kernel_rfl) (by kernel_rfl) (fun _ _ _ h => h) (Or.inl ⟨((wanted_at rfl rfl rfl rfl).trans rfl), ?hyg31⟩) hSg5 ?restg31
            case hyg31 =>
              intro W hW
              obtain ⟨p0, p1⟩ := box1N (box_on QP.out hW)
              go_simp
              exact rfl
            simp only [List.getElem_toArray, List.getElem_cons_succ, List.getElem_cons_zero, Act.put, List.setIfInBounds_toArray, List.set_cons_zero, List.set_cons_succ]
            refine but_take (f := 35) (i := 32) (v := ?vg32) rfl (by kernel_rfl) (by kernel_rfl) (by kernel_rfl) (by kernel_rfl) (by kernel_rfl) (fun _ _ _ h => h) (Or.inl ⟨((wanted_at rfl rfl rfl rfl).trans rfl), ?hyg32⟩) hSg5 ?restg32
            case hyg32 =>
              intro W hW
              go_simp
              exact rfl
            simp only [List.getElem_toArray, List.getElem_cons_succ, List.getElem_cons_zero, Act.put, List.setIfInBounds_toArray, List.set_cons_zero, List.set_cons_succ]
            refine but_take (f := 35) (i := 33) (v := ?vg33) rfl (by kernel_rfl) (by kernel_rfl) (by kernel_rfl) (by kernel_rfl) (by kernel_rfl) (fun _ _ _ h => h) (Or.inl ⟨((wanted_at rfl rfl rfl rfl).trans rfl), ?hyg33⟩) hSg5 ?restg33
            case hyg33 =>
              intro W hW
              go_simp
              exact rfl
            simp only [List.getElem_toArray, List.getElem_cons_succ, List.getElem_cons_zero, Act.put, List.setIfInBounds_toArray, List.set_cons_zero, List.set_cons_succ]
            refine but_take (f := 35) (i := 34) (v := ?vg34) rfl (by kernel_rfl) (by kernel_rfl) (by kernel_rfl) (by kernel_rfl) (by kernel_rfl) (fun _ _ _ h => h) (Or.inl ⟨(by rfl), ?hyg34⟩) hSg5 ?restg34
            case hyg34 =>
              intro W hW
              go_simp
              exact rfl
            simp only [List.getElem_toArray, List.getElem_cons_succ, List.getElem_cons_zero, Act.put, List.setIfInBounds_toArray, List.set_cons_zero, List.set_cons_succ]
            refine but_run (i := 35) (by kernel_rfl) rfl (by rfl) ?_
            simp only [List.getElem_toArray, List.getElem_cons_succ, List.getElem_cons_zero]
            intro K HK
            go_wp2_with fail
            refine HK.out _ _ (fun h => absurd rfl h) ?_
            clear HK
            refine but_done (by kernel_rfl) ?_
            have BE := bstep BB.out hSg5
            go_wp2
            go_ret
            exact ⟨rfl, BE⟩
          · have zc : (x.c != 0) = true := hs1.symm
            have hyk := hs2 hs1.symm
            subst hyk
            clear hs1 hs2 HSELF
            refine but_begin (f := 35) (S := fun V => Below W6.heap.size W6 V) (by kernel_rfl) ?_
            refine but_take (f := 35) (i := 0) (v := ?vh0) rfl (by kernel_rfl) (by kernel_rfl) (by kernel_rfl) (by kernel_rfl) (by kernel_rfl) (fun _ _ _ h => h) (Or.inl ⟨(by rfl), ?hyh0⟩) (Below.drew1 _) ?resth0
            case hyh0 =>
              intro W hW
              go_simp
              exact rfl
            simp only [List.getElem_toArray, List.getElem_cons_succ, List.getElem_cons_zero, Act.put, List.setIfInBounds_toArray, List.set_cons_zero, List.set_cons_succ]
            refine but_take (f := 35) (i := 1) (v := ?vh1) rfl (by kernel_rfl) (by kernel_rfl) (by kernel_rfl) (by kernel_rfl) (by kernel_rfl) (fun _ _ _ h => h) (Or.inl ⟨(by rfl), ?hyh1⟩) (Below.drew1 _) ?resth1
            case hyh1 =>
              intro W hW
              go_simp
              exact rfl
            simp only [List.getElem_toArray, List.getElem_cons_succ, List.getElem_cons_zero, Act.put, List.setIfInBounds_toArray, List.set_cons_zero, List.set_cons_succ]
            refine but_take (f := 35) (i := 2) (v := ?vh2) rfl (by kernel_rfl) (by kernel_rfl) (by kernel_rfl) (by kernel_rfl) (by kernel_rfl) (fun _ _ _ h => h) (Or.inl ⟨(by rfl), ?hyh2⟩) (Below.drew1 _) ?resth2
            case hyh2 =>
              intro W hW
              obtain ⟨k0, k1, k2, k3, k4, k5⟩ := box5 (box_on QK.out hW)
              go_simp
              exact rfl
            simp only [List.getElem_toArray, List.getElem_cons_succ, List.getElem_cons_zero, Act.put, List.setIfInBounds_toArray, List.set_cons_zero, List.set_cons_succ]
            refine but_take (f := 35) (i := 3) (v := ?vh3) rfl (by kernel_rfl) (by kernel_rfl) (by kernel_rfl) (by kernel_rfl) (by kernel_rfl) (fun _ _ _ h => h) (Or.inl ⟨(by rfl), ?hyh3⟩) (Below.drew1 _) ?resth3
            case hyh3 =>
              intro W hW
              go_simp
              exact rfl
            simp only [List.getElem_toArray, List.getElem_cons_succ, List.getElem_cons_zero, Act.put, List.setIfInBounds_toArray, List.set_cons_zero, List.set_cons_succ]
            refine but_take (f := 35) (i := 4) (v := ?vh4) rfl (by kernel_rfl) (by kernel_rfl) (by kernel_rfl) (by kernel_rfl) (by kernel_rfl) (fun _ _ _ h => h) (Or.inl ⟨(by rfl), ?hyh4⟩) (Below.drew1 _) ?resth4
            case hyh4 =>
              intro W hW
              go_simp
              exact rfl
            simp only [List.getElem_toArray, List.getElem_cons_succ, List.getElem_cons_zero, Act.put, List.setIfInBounds_toArray, List.set_cons_zero, List.set_cons_succ]
            refine but_take (f := 35) (i := 5) (v := ?vh5) rfl (by kernel_rfl) (by kernel_rfl) (by kernel_rfl) (by kernel_rfl) (by kernel_rfl) (fun _ _ _ h => h) (Or.inl ⟨(by rfl), ?hyh5⟩) (Below.drew1 _) ?resth5
            case hyh5 =>
              intro W hW
              go_simp
              exact rfl
            simp only [List.getElem_toArray, List.getElem_cons_succ, List.getElem_cons_zero, Act.put, List.setIfInBounds_toArray, List.set_cons_zero, List.set_cons_succ]
            refine but_take (f := 35) (i := 6) (v := ?vh6) rfl (by kernel_rfl) (by kernel_rfl) (by kernel_rfl) (by kernel_rfl) (by kernel_rfl) (fun _ _ _ h => h) (Or.inl ⟨((wanted_at rfl rfl rfl rfl).trans rfl), ?hyh6⟩) (Below.drew1 _) ?resth6
            case hyh6 =>
              intro W hW
              go_simp
              exact rfl
            simp only [List.getElem_toArray, List.getElem_cons_succ, List.getElem_cons_zero, Act.put, List.setIfInBounds_toArray, List.set_cons_zero, List.set_cons_succ]
            refine but_take (f := 35) (i := 7) (v := ?vh7) rfl (by kernel_rfl) (by kernel_rfl) (by kernel_rfl) (by kernel_rfl) (by kernel_rfl) (fun _ _ _ h => h) (Or.inl ⟨((wanted_at rfl rfl rfl rfl).trans rfl), ?hyh7⟩) (Below.drew1 _) ?resth7
            case hyh7 =>
              intro W hW
              go_simp
              exact rfl
            simp only [List.getElem_toArray, List.getElem_cons_succ, List.getElem_cons_zero, Act.put, List.setIfInBounds_toArray, List.set_cons_zero, List.set_cons_succ]
            refine but_take (f := 35) (i := 8) (v := ?vh8) rfl (by kernel_rfl) (by kernel_rfl) (by kernel_rfl) (by kernel_rfl) (by kernel_rfl) (fun _ _ _ h => h) (Or.inl ⟨((wanted_at rfl rfl rfl rfl).trans rfl), ?hyh8⟩) (Below.drew1 _) ?resth8
            case hyh8 =>
              intro W hW
              go_simp
              exact rfl
            simp only [List.getElem_toArray, List.getElem_cons_succ, List.getElem_cons_zero, Act.put, List.setIfInBounds_toArray, List.set_cons_zero, List.set_cons_succ]
            refine but_take (f := 35) (i := 9) (v := ?vh9) rfl (by kernel_rfl) (by kernel_rfl) (by kernel_rfl) (by kernel_rfl) (by kernel_rfl) (fun _ _ _ h => h) (Or.inl ⟨((wanted_at rfl rfl rfl rfl).trans rfl), ?hyh9⟩) (Below.drew1 _) ?resth9
            case hyh9 =>
              intro W hW
              obtain ⟨y0, y1, y2, y3, y4, y5⟩ := box5 (box_on QY.out hW)
              go_simp
              exact rfl
            simp only [List.getElem_toArray, List.getElem_cons_succ, List.getElem_cons_zero, Act.put, List.setIfInBounds_toArray, List.set_cons_zero, List.set_cons_succ]
            refine but_take (f := 35) (i := 10) (v := ?vh10) rfl (by kernel_rfl) (by kernel_rfl) (by kernel_rfl) (by kernel_rfl) (by kernel_rfl) (fun _ _ _ h => h) (Or.inl ⟨((wanted_at rfl rfl rfl rfl).trans rfl), ?hyh10⟩) (Below.drew1 _) ?resth10
            case hyh10 =>
              intro W hW
              obtain ⟨k0, k1, k2, k3, k4, k5⟩ := box5 (box_on QK.out hW)
              go_simp
              exact rfl
            simp only [List.getElem_toArray, List.getElem_cons_succ, List.getElem_cons_zero, Act.put, List.setIfInBounds_toArray, List.set_cons_zero, List.set_cons_succ]
            refine but_take (f := 35) (i := 11) (v := ?vh11) rfl (by kernel_rfl) (by kernel_rfl) (by kernel_rfl) (by kernel_rfl) (by kernel_rfl) (fun _ _ _ h => h) (Or.inl ⟨((wanted_at rfl rfl rfl rfl).trans rfl), ?hyh11⟩) (Below.drew1 _) ?resth11
            case hyh11 =>
              intro W hW
              go_simp
              exact rfl
            simp only [List.getElem_toArray, List.getElem_cons_succ, List.getElem_cons_zero, Act.put, List.setIfInBounds_toArray, List.set_cons_zero, List.set_cons_succ]
            refine but_take (f := 35) (i := 12) (v := ?vh12) rfl (by kernel_rfl) (by kernel_rfl) (by kernel_rfl) (by kernel_rfl) (by kernel_rfl) (fun _ _ _ h => h) (Or.inl ⟨((wanted_at rfl rfl rfl rfl).trans rfl), ?hyh12⟩) (Below.drew1 _) ?resth12
            case hyh12 =>
              intro W hW
              go_simp
              exact rfl
            simp only [List.getElem_toArray, List.getElem_cons_succ, List.getElem_cons_zero, Act.put, List.setIfInBounds_toArray, List.set_cons_zero, List.set_cons_succ]
            refine but_take (f := 35) (i := 13) (v := ?vh13) rfl (by kernel_rfl) (by kernel_rfl) (by kernel_rfl) (by kernel_rfl) (by kernel_rfl) (fun _ _ _ h => h) (Or.inl ⟨(by rfl), ?hyh13⟩) (Below.drew1 _) ?resth13
            case hyh13 =>
              intro W hW
              go_simp
              exact rfl
            simp only [List.getElem_toArray, List.getElem_cons_succ, List.getElem_cons_zero, Act.put, List.setIfInBounds_toArray, List.set_cons_zero, List.set_cons_succ]
            refine but_take (f := 35) (i := 14) (v := ?vh14) rfl (by kernel_rfl) (by kernel_rfl) (by kernel_rfl) (by kernel_rfl) (by kernel_rfl) (fun _ _ _ h => h) (Or.inl ⟨(by rfl), ?hyh14⟩) (Below.drew1 _) ?resth14
            case hyh14 =>
              intro W hW
              go_simp
              exact rfl
            simp only [List.getElem_toArray, List.getElem_cons_succ, List.getElem_cons_zero, Act.put, List.setIfInBounds_toArray, List.set_cons_zero, List.set_cons_succ]
            refine but_take (f := 35) (i := 15) (v := ?vh15) rfl (by kernel_rfl) (by kernel_rfl) (by kernel_rfl) (by kernel_rfl) (by kernel_rfl) (fun _ _ _ h => h) (Or.inl ⟨((wanted_at rfl rfl rfl rfl).trans rfl), ?hyh15⟩) (Below.drew1 _) ?resth15
            case hyh15 =>
              intro W hW
              obtain ⟨x0, x1⟩ := box1N (box_on QX.out hW)
              go_simp
              exact rfl
            simp only [List.getElem_toArray, List.getElem_cons_succ, List.getElem_cons_zero, Act.put, List.setIfInBounds_toArray, List.set_cons_zero, List.set_cons_succ]
            refine but_run (i := 16) (by kernel_rfl) rfl ((wanted_at rfl rfl rfl rfl).trans rfl) ?_
            simp only [List.getElem_toArray, List.getElem_cons_succ, List.getElem_cons_zero]
            intro K HK
            go_wp2_with fail
            refine (implNodeOk_any _ X _ (OX.out.on (Below.drew1 _)).reads HSX.out).mono ?_
            rintro r Vh1 ⟨rfl, hbh1⟩
            rw [HXOK.out]
            go_wp2_with fail
            have hSh1 : (fun V => Below W6.heap.size W6 V) Vh1 := bstep (Below.drew1 _) hbh1
            refine HK.out _ _ (fun _ => hSh1) ?_
            clear HK
            refine but_take (f := 35) (i := 17) (v := ?vh17) rfl (by kernel_rfl) (by kernel_rfl) (by kernel_rfl) (by kernel_rfl) (by kernel_rfl) (fun _ _ _ h => h) (Or.inl ⟨(by rfl), ?hyh17⟩) hSh1 ?resth17
            case hyh17 =>
              intro W hW
              go_simp
              exact rfl
            simp only [List.getElem_toArray, List.getElem_cons_succ, List.getElem_cons_zero, Act.put, List.setIfInBounds_toArray, List.set_cons_zero, List.set_cons_succ]
            refine but_take (f := 35) (i := 18) (v := ?vh18) rfl (by kernel_rfl) (by kernel_rfl) (by kernel_rfl) (by kernel_rfl) (by kernel_rfl) (fun _ _ _ h => h) (Or.inl ⟨(by rfl), ?hyh18⟩) hSh1 ?resth18
            case hyh18 =>
              intro W hW
              go_simp
              exact rfl
            simp only [List.getElem_toArray, List.getElem_cons_succ, List.getElem_cons_zero, Act.put, List.setIfInBounds_toArray, List.set_cons_zero, List.set_cons_succ]
            refine but_take (f := 35) (i := 19) (v := ?vh19) rfl (by kernel_rfl) (by kernel_rfl) (by kernel_rfl) (by kernel_rfl) (by kernel_rfl) (fun _ _ _ h => h) (Or.inl ⟨((wanted_at rfl rfl rfl rfl).trans rfl), ?hyh19⟩) hSh1 ?resth19
            case hyh19 =>
              intro W hW
              obtain ⟨p0, p1⟩ := box1N (box_on QP.out hW)
              go_simp
              exact rfl
            simp only [List.getElem_toArray, List.getElem_cons_succ, List.getElem_cons_zero, Act.put, List.setIfInBounds_toArray, List.set_cons_zero, List.set_cons_succ]
            refine but_run (i := 20) (by kernel_rfl) rfl ((wanted_at rfl rfl rfl rfl).trans rfl) ?_
            simp only [List.getElem_toArray, List.getElem_cons_succ, List.getElem_cons_zero]
            intro K HK
            go_wp2_with fail
            refine (implNodeOk_any _ PK _ (OP.out.on hSh1).reads HSP2.out).mono ?_
            rintro r Vh2 ⟨rfl, hbh2⟩
            rw [HPKOK.out]
            go_wp2_with fail
            have hSh2 : (fun V => Below W6.heap.size W6 V) Vh2 := bstep hSh1 hbh2
            refine HK.out _ _ (fun _ => hSh2) ?_
            clear HK
            refine but_take (f := 35) (i := 21) (v := ?vh21) rfl (by kernel_rfl) (by kernel_rfl) (by kernel_rfl) (by kernel_rfl) (by kernel_rfl) (fun _ _ _ h => h) (Or.inl ⟨(by rfl), ?hyh21⟩) hSh2 ?resth21
            case hyh21 =>
              intro W hW
              go_simp
              exact rfl
            simp only [List.getElem_toArray, List.getElem_cons_succ, List.getElem_cons_zero, Act.put, List.setIfInBounds_toArray, List.set_cons_zero, List.set_cons_succ]
            refine but_take (f := 35) (i := 22) (v := ?vh22) rfl (by kernel_rfl) (by kernel_rfl) (by kernel_rfl) (by kernel_rfl) (by kernel_rfl) (fun _ _ _ h => h) (Or.inl ⟨(by rfl), ?hyh22⟩) hSh2 ?resth22
            case hyh22 =>
              intro W hW
              go_simp
              exact rfl
            simp only [List.getElem_toArray, List.getElem_cons_succ, List.getElem_cons_zero, Act.put, List.setIfInBounds_toArray, List.set_cons_zero, List.set_cons_succ]
            refine but_take (f := 35) (i := 23) (v := ?vh23) rfl (by kernel_rfl) (by kernel_rfl) (by kernel_rfl) (by kernel_rfl) (by kernel_rfl) (fun _ _ _ h => h) (Or.inl ⟨((wanted_at rfl rfl rfl rfl).trans rfl), ?hyh23⟩) hSh2 ?resth23
            case hyh23 =>
              intro W hW
              obtain ⟨p0, p1⟩ := box1N (box_on QP.out hW)
              go_simp
              exact rfl
            simp only [List.getElem_toArray, List.getElem_cons_succ, List.getElem_cons_zero, Act.put, List.setIfInBounds_toArray, List.set_cons_zero, List.set_cons_succ]
            refine but_take (f := 35) (i := 25) (v := ?vh25) rfl (by kernel_rfl) (by kernel_rfl) (by kernel_rfl) (by kernel_rfl) (by kernel_rfl) (fun _ _ _ h => h) (Or.inl ⟨((wanted_at rfl rfl rfl rfl).trans rfl), ?hyh25⟩) hSh2 ?resth25
            case hyh25 =>
              intro W hW
              obtain ⟨x0, x1⟩ := box1N (box_on QX.out hW)
              go_simp
              exact rfl
            simp only [List.getElem_toArray, List.getElem_cons_succ, List.getElem_cons_zero, Act.put, List.setIfInBounds_toArray, List.set_cons_zero, List.set_cons_succ]
            refine but_run (i := 24) (by kernel_rfl) rfl ((wanted_at rfl rfl rfl rfl).trans rfl) ?_
            simp only [List.getElem_toArray, List.getElem_cons_succ, List.getElem_cons_zero]
            intro K HK
            go_wp2_with fail
            refine (implNodeKeys_any _ PK _ (OP.out.on hSh2).reads (by omega) (by omega)).mono ?_
            rintro r Vh3 ⟨vA, rfl, oA, hbh3⟩
            rw [HKP.out] at oA
            obtain ⟨AA, cA, rfl, _, _⟩ := oA.shape
            go_wp2_with fail
            have hSh3 : (fun V => Below W6.heap.size W6 V) Vh3 := bstep hSh2 hbh3
            refine HK.out _ _ (fun _ => hSh3) ?_
            clear HK
            have OA := Lib.hid oA.owns
            clear oA
            refine but_run (i := 26) (by kernel_rfl) rfl ((wanted_at rfl rfl rfl rfl).trans rfl) ?_
            simp only [List.getElem_toArray, List.getElem_cons_succ, List.getElem_cons_zero]
            intro K HK
            go_wp2_with fail
            refine (implNodeKeys_any _ X _ (OX.out.on hSh3).reads (by omega) (by omega)).mono ?_
            rintro r Vh4 ⟨vB, rfl, oB, hbh4⟩
            rw [HKX.out] at oB
            obtain ⟨AB, cB, rfl, _, _⟩ := oB.shape
            go_wp2_with fail
            have hSh4 : (fun V => Below W6.heap.size W6 V) Vh4 := bstep hSh3 hbh4
            refine HK.out _ _ (fun _ => hSh4) ?_
            clear HK
            have OB := Lib.hid oB.owns
            replace OA := Lib.hid (OA.out.on hbh4)
            clear oB
            refine but_run (i := 27) (by kernel_rfl) rfl ((wanted_at rfl rfl rfl rfl).trans rfl) ?_
            simp only [List.getElem_toArray, List.getElem_cons_succ, List.getElem_cons_zero]
            intro K HK
            go_wp2_with fail
            refine (sameKeysN _ _ KX _ OA.out.reads OB.out.reads (by omega)).mono ?_
            rintro r Vh5 ⟨rfl, hbh5⟩
            go_wp2_with fail
            have hSh5 : (fun V => Below W6.heap.size W6 V) Vh5 := bstep hSh4 hbh5
            refine HK.out _ _ (fun _ => hSh5) ?_
            clear HK
            refine but_take (f := 35) (i := 28) (v := ?vh28) rfl (by kernel_rfl) (by kernel_rfl) (by kernel_rfl) (by kernel_rfl) (by kernel_rfl) (fun _ _ _ h => h) (Or.inl ⟨(by rfl), ?hyh28⟩) hSh5 ?resth28
            case hyh28 =>
              intro W hW
              go_simp
              exact rfl
            simp only [List.getElem_toArray, List.getElem_cons_succ, List.getElem_cons_zero, Act.put, List.setIfInBounds_toArray, List.set_cons_zero, List.set_cons_succ]
            refine but_take (f := 35) (i := 29) (v := ?vh29) rfl (by kernel_rfl) (by kernel_rfl) (by kernel_rfl) (by kernel_rfl) (by kernel_rfl) (fun _ _ _ h => h) (Or.inl ⟨(by rfl), ?hyh29⟩) hSh5 ?resth29
            case hyh29 =>
              intro W hW
              go_simp
              exact rfl
            simp only [List.getElem_toArray, List.getElem_cons_succ, List.getElem_cons_zero, Act.put, List.setIfInBounds_toArray, List.set_cons_zero, List.set_cons_succ]
            refine but_take (f := 35) (i := 30) (v := ?vh30) rfl (by kernel_rfl) (by kernel_rfl) (by kernel_rfl) (by kernel_rfl) (by kernel_rfl) (fun _ _ _ h => h) (Or.inl ⟨((wanted_at rfl rfl rfl rfl).trans rfl), ?hyh30⟩) hSh5 ?resth30
            case hyh30 =>
              intro W hW
              go_simp
              exact rfl
            simp only [List.getElem_toArray, List.getElem_cons_succ, List.getElem_cons_zero, Act.put, List.setIfInBounds_toArray, List.set_cons_zero, List.set_cons_succ]
            refine but_take (f := 35) (i := 31) (v := ?vh31) rfl (by kernel_rfl) (by kernel_rfl) (by kernel_rfl) (by kernel_rfl) (by kernel_rfl) (fun _ _ _ h => h) (Or.inl ⟨((wanted_at rfl rfl rfl rfl).trans rfl), ?hyh31⟩) hSh5 ?resth31
            case hyh31 =>
              intro W hW
              obtain ⟨p0, p1⟩ := box1N (box_on QP.out hW)
              go_simp
              exact rfl
            simp only [List.getElem_toArray, List.getElem_cons_succ, List.getElem_cons_zero, Act.put, List.setIfInBounds_toArray, List.set_cons_zero, List.set_cons_succ]
            refine but_take (f := 35) (i := 32) (v := ?vh32) rfl (by kernel_rfl) (by kernel_rfl) (by kernel_rfl) (by kernel_rfl) (by kernel_rfl) (fun _ _ _ h => h) (Or.inl ⟨((wanted_at rfl rfl rfl rfl).trans rfl), ?hyh32⟩) hSh5 ?resth32
            case hyh32 =>
              intro W hW
              go_simp
              exact rfl
            simp only [List.getElem_toArray, List.getElem_cons_succ, List.getElem_cons_zero, Act.put, List.setIfInBounds_toArray, List.set_cons_zero, List.set_cons_succ]
            refine but_take (f := 35) (i := 33) (v := ?vh33) rfl (by kernel_rfl) (by kernel_rfl) (by kernel_rfl) (by kernel_rfl) (by kernel_rfl) (fun _ _ _ h => h) (Or.inl ⟨((wanted_at rfl rfl rfl rfl).trans rfl), ?hyh33⟩) hSh5 ?resth33
            case hyh33 =>
              intro W hW
              go_simp
              exact rfl
            simp only [List.getElem_toArray, List.getElem_cons_succ, List.getElem_cons_zero, Act.put, List.setIfInBounds_toArray, List.set_cons_zero, List.set_cons_succ]
            refine but_take (f := 35) (i := 34) (v := ?vh34) rfl (by kernel_rfl) (by kernel_rfl) (by kernel_rfl) (by kernel_rfl) (by kernel_rfl) (fun _ _ _ h => h) (Or.inl ⟨(by rfl), ?hyh34⟩) hSh5 ?resth34
            case hyh34 =>
              intro W hW
              go_simp
              exact rfl
            simp only [List.getElem_toArray, List.getElem_cons_succ, List.getElem_cons_zero, Act.put, List.setIfInBounds_toArray, List.set_cons_zero, List.set_cons_succ]
            refine but_run (i := 35) (by kernel_rfl) rfl (by rfl) ?_
            simp only [List.getElem_toArray, List.getElem_cons_succ, List.getElem_cons_zero]
            intro K HK
            go_wp2_with fail
            refine HK.out _ _ (fun h => absurd rfl h) ?_
            clear HK
            refine but_done (by kernel_rfl) ?_
            have BE := bstep BB.out hSh5
            go_wp2
            go_ret
            exact ⟨rfl, BE⟩
  · have d0 : decide ((1048576 : Int) < (l.length : Int)) = true := decide_eq_true (by omega)
    go_enter Try.func3, Try.ntmps3
    go_wp2_with fail
    refine (big_any _ _ _ _).mono ?_
    rintro r w1 ⟨rfl, rfl⟩
    rw [d0]
    go_wp2
    go_ret
    exact ⟨rfl, Below.refl _ _⟩
end Go.Proofs.Ytncjedbdkanleaa
