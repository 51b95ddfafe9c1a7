/- Contracts for nodes in the laws: laws.eqNode finds two that read alike equal, laws.markNode writes marks, laws.heldNode finds them; a node that comes in as an argument is opened. Conditions: at most 1100000 sets and keys. -/
import Derived.Test.YtmpgmjnagpiijaaNode
import Derived.StillTailTactics
namespace Go.Proofs.Ytmpgmjnagpiijaa
open Go.RowKit Go.ChangeShapes Go.WideShapes Go.Deep
set_option maxRecDepth 100000
set_option linter.unusedSimpArgs false
set_option linter.unusedVariables false

theorem sets_opens : Opens Try.prog 121 (fun ds => ∃ ns, ds = [setsA ns]) := by
  have h := Opens.slice (z := 1) (fun l : List KeyD => [keysA l]) (fun _ => rfl) (by omega) Try.underlying121 (by kernel_rfl) keys_opens 138
  refine h.weaken (fun ds ⟨l, hl⟩ => ⟨l, ?_⟩)
  rw [hl, setsA, flat_one]
theorem node_opens : Opens Try.prog 123 (fun ds => ∃ ns, ds = [setsA ns]) := by
  have h := Opens.struct (P := Try.prog) Try.underlying123 (by kernel_rfl) [fun ds => ∃ ns, ds = [setsA ns]] rfl (fun i hi => by
    match i, hi with
    | 0, _ => exact sets_opens)
  refine h.weaken (fun ds ⟨dss, hd, hC, hds⟩ => ?_)
  match dss, hd with
  | [a], _ =>
    obtain ⟨ns, h0⟩ := hC 0 (by simp)
    simp at h0
    subst h0
    exact ⟨ns, by rw [hds]; rfl⟩
/-- A node as it comes in. -/
def NodeIs (w : World) (v : Value) (ns : List (List KeyD)) : Prop := ∃ v0, v = .agg #[v0] ∧ Reads w w.heap.size v0 (setsA ns)
theorem open_nodeArg {H : Type} {enc : TypeId × Value → H} {w : World} {r : Reach} {b0 base : Nat} {spare : Nat → Bool} {held : Bool} {v : Value} {x : DataW H} {p : List MemPlace}
    (hv : Value.okWide Try.prog w r b0 123 v) (h : DataW.Trod enc Try.prog w base spare held 123 v x p) : ∃ ns, NodeIs w v ns := by
  obtain ⟨cs, rfl, hsz⟩ := okWide_struct Try.underlying123 hv
  obtain ⟨fuel, hf⟩ := h
  obtain ⟨ds, ⟨ns, rfl⟩, hr⟩ := node_opens _ _ _ _ _ _ _ _ _ hf
  obtain ⟨l⟩ := cs
  have hl := hr.1
  simp [Value.cells] at hl
  match l, hl with
  | [a], _ =>
    have r0 := hr.2 0 (by simp [Value.cells]) (by simp)
    simp [Value.cells] at r0
    exact ⟨ns, a, rfl, r0⟩
set_option maxHeartbeats 1000000 in
theorem eqKeySS_same (v u : Value) (ns : List (List KeyD)) (w : World) (hv : Reads w w.heap.size v (setsD ns)) (hu : Reads w w.heap.size u (setsD ns)) (hs : SmallN ns) :
    Calls Try.prog 89 #[v, u] w (SaysBool w true) := by
  obtain ⟨A, c, rfl, _, _⟩ := hv.lenN
  obtain ⟨A', c', rfl, _, _⟩ := hu.lenN
  have hne : ((ns.length : Int) != (ns.length : Int)) = false := by simp
  have HS := Lib.hid hs
  have hn := hs.1
  have HV := Lib.hid hv
  have HU := Lib.hid hu
  clear hv hu hs
  go_enter Try.func89, Try.ntmps89
  go_wp2
  go_loopw [5] (fun i wr => ∃ k : Nat, k ≤ ns.length ∧ i = .int .i64 k ∧ Hid (Below w.heap.size w wr)) (fun i _ => ns.length - (intOf i).toNat)
  case atStart => exact ⟨0, Nat.zero_le _, rfl, Lib.hid (Below.refl _ _)⟩
  case round =>
    obtain ⟨k, hk, rfl, HB⟩ := hrel
    by_cases hlt : k < ns.length
    · obtain ⟨b, off, rfl, hbb, hc⟩ := (HV.out.on HB.out).set hlt
      obtain ⟨b2, off2, rfl, hbb2, hc2⟩ := (HU.out.on HB.out).set hlt
      obtain ⟨A1, d1, c1, _, _, r1⟩ := hc k hlt
      obtain ⟨A2, d2, c2, _, _, r2⟩ := hc2 k hlt
      have hl := HS.out.at hlt
      have R1 := Lib.hid r1
      have R2 := Lib.hid r2
      clear hc hc2 r1 r2
      have i1 : (k : Int) < (ns.length : Int) := by omega
      have i2 : (0 : Int) ≤ (k : Int) := by omega
      go_wp2
      go_still_tail 8, (by kernel_rfl)
      change wpList _ _ _ _ _ wr.drew
      have HB1 := Lib.hid (bstep HB.out (Below.drew1 _))
      have Q1 := Lib.hid (R1.out.on (Below.drew1 _))
      have Q2 := Lib.hid (R2.out.on (Below.drew1 _))
      clear R1 R2
      generalize wr.drew = wd at *
      go_wp2_with fail
      refine (eqKeyS_same _ _ ns[k] _ Q1.out Q2.out (by omega)).mono ?_
      rintro e w2 ⟨rfl, b2⟩
      have HB2 := Lib.hid (bstep HB1.out b2)
      clear b2
      go_wp2
      go_roundw
      case rel => exact ⟨k + 1, by omega, by go_num, HB2⟩
      case measure => simp [intOf]; omega
    · go_wp2
      go_ret
      exact ⟨rfl, HB.out⟩
theorem eqNode_same (v u : Value) (ns : List (List KeyD)) (w : World) (hv : Reads w w.heap.size v (setsD ns)) (hu : Reads w w.heap.size u (setsD ns)) (hs : SmallN ns) :
    Calls Try.prog 77 #[.agg #[v], .agg #[u]] w (SaysBool w true) := by
  have HE := Lib.hid (fun W b => eqKeySS_same v u ns W (hv.on b) (hu.on b) hs)
  obtain ⟨A, c, rfl, _, _⟩ := hv.lenN
  obtain ⟨A', c', rfl, _, _⟩ := hu.lenN
  have HB := Lib.hid (bal2 w (.cells #[.slice A ns.length c] 87) (.cells #[.slice A' ns.length c'] 87))
  clear hv hu
  go_enter Try.func77, Try.ntmps77
  go_wp2_with fail
  refine (HE.out _ HB.out).mono ?_
  rintro e w1 ⟨rfl, b1⟩
  have B1 := bstep HB.out b1
  clear b1
  go_wp2
  go_ret
  exact ⟨rfl, B1⟩
def mN (k : Int) (l : List KeyD) : List KeyD := mkL mK sK k l l.length
def sN (l : List KeyD) : Nat := l.length * 5
theorem mN_len (k : Int) (l : List KeyD) : (mN k l).length = l.length := mkL_length _ _ _ _ _
theorem totN (ns : List (List KeyD)) (i : Nat) : totL sN ns i = sumN (ns.take i) * 5 := by
  induction i generalizing ns with
  | zero => simp [totL, sumN]
  | succ i ih =>
    cases ns with
    | nil => simp [totL, sumN]
    | cons a ns => simp only [totL, ih, sN, List.take_succ_cons, sumN_cons]; omega
theorem map_setN (ls : List (List KeyD)) (i : Nat) (l : List KeyD) : (ls.map keysD).set i (keysD l) = (ls.set i l).map keysD := by rw [List.map_set]
def MarkedN (w : World) (S : Nat → Prop) (v : Value) (k : Int) (ns : List (List KeyD)) (e : Ending) (w' : World) : Prop := e = .returned (.int .i64 (k + (sumN ns * 5 : Nat))) ∧ Owns w' S v (setsD (mkL mN sN k ns ns.length)) ∧ Only S w w'
set_option maxHeartbeats 1000000 in
theorem markKeySS_any (v : Value) (S : Nat → Prop) (ns : List (List KeyD)) (k : Int) (w : World) (hv : Owns w S v (setsD ns)) (hs : SmallN ns) (h0 : 0 ≤ k) (h1 : k ≤ 1099511627776) :
    Calls Try.prog 78 #[v, .int .i64 k] w (MarkedN w S v k ns) := by
  rcases hv.row' with ⟨rfl, hl, hc⟩ | ⟨g, cap, cur, xs, rfl, hS, hh, hcap, hmax, hsz, hl, hx, ho⟩
  · have : ns = [] := List.length_eq_zero_iff.1 hl
    subst this
    go_enter Try.func78, Try.ntmps78
    go_wp2
    go_loopw [1, 5] (fun q i wr => i = .int .i64 0 ∧ q = .int .i64 k ∧ w = wr) (fun _ _ _ => 0)
    case atStart => exact ⟨rfl, rfl, rfl⟩
    case round =>
      obtain ⟨rfl, rfl, rfl⟩ := hrel
      go_wp2
      go_ret
      exact ⟨by simp [sumN], .nil _ _ _, Only.refl _ _⟩
  · have HXL : Hid (xs.length = ns.length) := Lib.hid (by rw [ho.1]; simp)
    have hle : ns.length ≤ cap := hcap
    have hn := hs.1
    have TOT : Hid (∀ i, totL sN ns i ≤ 5500000) := Lib.hid (fun i => by rw [totN]; have := sumN_take_le ns i; have := hs.2; omega)
    have HH := Lib.hid hh
    have HS := Lib.hid hs
    have HX := Lib.hid hx
    have HZ := Lib.hid hsz
    have HO := Lib.hid ho
    clear hh hs hx hl hsz hv ho
    go_enter Try.func78, Try.ntmps78
    go_wp2
    go_loopw [1, 5] (fun q i wr => ∃ j : Nat, j ≤ ns.length ∧ i = .int .i64 j ∧ q = .int .i64 (k + totL sN ns j) ∧ OwnsL wr (fun b => S b ∧ b ≠ g) xs ((mkL mN sN k ns j).map keysD) ∧ Only (fun b => S b ∧ b ≠ g) w wr) (fun _ i _ => ns.length - (intOf i).toNat)
    case atStart => exact ⟨0, Nat.zero_le _, rfl, by simp [totL], by rw [mkL_zero]; exact HO.out, Only.refl _ _⟩
    case round =>
      obtain ⟨j, hj, rfl, rfl, hr, hO⟩ := hrel
      have hG := box_only HH.out hO (fun h => h.2 rfl)
      by_cases hlt : j < ns.length
      · have hlx : j < xs.length := by rw [HXL.out]; exact hlt
        have hlm : j < ((mkL mN sN k ns j).map keysD).length := by simp [mkL_length]; exact hlt
        obtain ⟨T, hT, hTS, hup⟩ := hr.pick hlx hlm
        rw [List.getElem_map, mkL_at _ _ _ _ _ hlt] at hT
        have c1 : wr.cell? ⟨g, j, none⟩ = some xs[j] := by
          rw [cell_of_row wr g j cur _ _ hG]
          have h5 : (cur.toList.take (ns.length * 1))[j]? = some xs[j] := by rw [HX.out]; simp
          rw [List.getElem?_take_of_lt (by omega)] at h5
          simpa using h5
        have t1 := TOT.out j
        have hl := HS.out.at hlt
        have T1 : Hid (totL sN ns (j + 1) = totL sN ns j + (ns[j]).length * 5) := Lib.hid (totL_succ sN ns j hlt)
        have UP := Lib.hid hup
        have TS := Lib.hid hTS
        have HO := Lib.hid hO
        clear hr hG hup hTS hO
        have q0 : 0 ≤ k + (totL sN ns j : Int) := by omega
        obtain ⟨A1, d1, e1, _, _⟩ := hT.reads.lenN
        rw [e1] at hT c1
        rw [e1] at UP
        generalize hq : (totL sN ns j : Int) = q at q0
        have H := Lib.hid (markKeyS_any _ _ ns[j] (k + q) _ hT (by omega) q0 (by omega))
        clear hT
        go_wp2_with fail
        refine H.out.mono ?_
        rintro e w1 ⟨rfl, o1, g1⟩
        go_wp2
        go_roundw
        case rel =>
          refine ⟨j + 1, by omega, by go_num, ?_, ?_, ?_⟩
          · rw [T1.out]; subst hq; go_num
          · have h := UP.out w1 _ o1 g1
            rw [mkL_succ _ _ _ _ _ hlt, ← map_setN]
            subst hq
            exact h
          · exact HO.out.trans (g1.mono TS.out)
        case measure => simp [intOf]; omega
      · go_wp2
        go_ret
        have e : j = ns.length := by omega
        subst e
        refine ⟨by rw [totN, List.take_length]; rfl, ?_, hO.mono (fun b hb => hb.1)⟩
        have h := OwnsL.row (S := S) (z := 1) hS hG hcap hmax HZ.out (by simp [mkL_length]) HX.out hr
        unfold setsD
        rw [mkL_length]
        exact h
set_option maxHeartbeats 1000000 in
theorem heldKeySS_any (v : Value) (ns : List (List KeyD)) (k : Int) (w : World) (hv : Reads w w.heap.size v (setsD (mkL mN sN k ns ns.length))) (hs : SmallN ns) (h0 : 0 ≤ k) (h1 : k ≤ 1099511627776) :
    Calls Try.prog 79 #[v, .int .i64 k] w fun e w' => e = .returned (.int .i64 (k + (sumN ns * 5 : Nat))) ∧ w = w' := by
  obtain ⟨A, c, rfl, _, _⟩ := hv.lenN
  rw [mkL_length] at *
  have hn := hs.1
  have TOT : Hid (∀ i, totL sN ns i ≤ 5500000) := Lib.hid (fun i => by rw [totN]; have := sumN_take_le ns i; have := hs.2; omega)
  have HS := Lib.hid hs
  have HV := Lib.hid hv
  clear hs hv
  go_enter Try.func79, Try.ntmps79
  go_wp2
  go_loop [1, 5] (fun q i => ∃ j : Nat, j ≤ ns.length ∧ i = .int .i64 j ∧ q = .int .i64 (k + totL sN ns j)) (fun _ i => ns.length - (intOf i).toNat)
  case atStart => exact ⟨0, Nat.zero_le _, rfl, by simp [totL]⟩
  case round =>
    obtain ⟨j, hj, rfl, rfl⟩ := hrel
    by_cases hlt : j < ns.length
    · have hlm : j < (mkL mN sN k ns ns.length).length := by rw [mkL_length]; exact hlt
      have HV2 := HV.out
      unfold setsD at HV2
      obtain ⟨b, off, rfl, hbb, hc⟩ := HV2.set hlm
      obtain ⟨A1, d1, c1, _, _, r1⟩ := hc j hlm
      have t1 := TOT.out j
      have hl := HS.out.at hlt
      have T1 : Hid (totL sN ns (j + 1) = totL sN ns j + (ns[j]).length * 5) := Lib.hid (totL_succ sN ns j hlt)
      rw [mkL_get _ _ _ _ _ _ hlt hlt] at c1 r1
      rw [mN_len] at c1
      rw [show (mN (k + (totL sN ns j : Int)) ns[j]).length = (ns[j]).length from mN_len _ _] at r1
      have i1 : (j : Int) < (ns.length : Int) := by omega
      have i2 : (0 : Int) ≤ (j : Int) := by omega
      clear hc HV2
      generalize hq : (totL sN ns j : Int) = q at r1 c1
      have q0 : 0 ≤ k + q := by omega
      have r2 : Reads w w.heap.size (.slice A1 (ns[j]).length d1) (keysD (mkL mK sK (k + q) ns[j] (ns[j]).length)) := by
        unfold keysD
        rw [mkL_length]
        exact r1
      have H := Lib.hid (heldKeyS_any _ ns[j] (k + q) w r2 (by omega) q0 (by omega))
      have d0 : decide (k + q + (((ns[j]).length * 5 : Nat) : Int) < 0) = false := decide_eq_false (by omega)
      have HQ := Lib.hid hq
      have q1 : q ≤ 5500000 := by omega
      clear hq t1 r1 r2
      go_wp2_with fail
      refine H.out.mono ?_
      rintro e w1 ⟨rfl, rfl⟩
      go_wp2
      go_round
      case rel => exact ⟨j + 1, by omega, by go_num, by rw [T1.out, ← HQ.out]; go_num⟩
      case measure => simp [intOf]; omega
    · go_wp2
      go_ret
      have e : j = ns.length := by omega
      subst e
      exact ⟨by rw [totN, List.take_length]; rfl, rfl⟩
end Go.Proofs.Ytmpgmjnagpiijaa
