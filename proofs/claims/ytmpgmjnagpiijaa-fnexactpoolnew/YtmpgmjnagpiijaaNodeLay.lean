/- The iterator that impl.layeredKeys returns: over an iterator that hands out sets it hands out their keys, set by set. Conditions: at most 1100000 keys in a set. -/
import Derived.Test.YtmpgmjnagpiijaaNodeIter
namespace Go.Proofs.Ytmpgmjnagpiijaa
open Go.RowKit Go.Shelf
set_option maxRecDepth 100000
set_option linter.unusedSimpArgs false
set_option linter.unusedVariables false
attribute [local go_sem] Oper.semAt_some

theorem round_in {P : Program} {n l l' : Nat} {f : FuncId} {tmps : Array Value} {assign body : Code} {w : World} {R : Ending → World → Prop} (h : RoundIn Fence.wide n P l f tmps assign body w R) : RoundIn (Fence.wide.inRound l') n P l f tmps assign body w R := h
def keysOfS (zs : List SV) : List KeyD := zs.flatMap SV.ks
theorem keysOfS_snoc (pre : List SV) (x : SV) : keysOfS (pre ++ [x]) = keysOfS pre ++ x.ks := by simp [keysOfS]
theorem keysOfS_pre {pre zs : List SV} (h : pre <+: zs) : keysOfS pre <+: keysOfS zs := by
  obtain ⟨t, rfl⟩ := h
  exact ⟨keysOfS t, by simp [keysOfS]⟩
theorem key_pre {pre zs : List SV} {x : SV} {k : Nat} (h : pre ++ [x] <+: zs) (hk : k < x.ks.length) : (keysOfS pre ++ x.ks.take k) ++ [x.ks[k]] <+: keysOfS zs := by
  refine List.IsPrefix.trans ?_ (keysOfS_pre h)
  rw [keysOfS_snoc, List.append_assoc]
  exact (List.prefix_append_right_inj _).2 (take_pre hk)
theorem only_alloc0 (W : World) (o : Obj) (S : Nat → Prop) : Only S W (W.alloc o) := Only.of_below (bal1 W o) S
set_option maxHeartbeats 4000000 in
theorem layered_seq (E : TypeId) (hE : ∀ cur cur', Obj.cells cur 134 (0, 0) ≠ .cells cur' E (0, 0)) (Bf n₀ gf : Nat) (lb : Array Value) (zs : List SV) (w : World) (hn₀ : n₀ ≤ w.heap.size) (hBf : Bf < n₀) (hf : w.cell? ⟨Bf, 0, none⟩ = some (.func (.func gf) #[] lb)) (eg : ∀ args w, (callFunc gf args).run Try.prog w = .ok (.enter gf args) w)
    (hseq : SeqL E Try.prog gf lb encS n₀ zs w) (hr : ∀ z ∈ zs, Reads w n₀ (.slice z.A z.ks.length z.c) (keysD z.ks)) (hl : ∀ z ∈ zs, z.ks.length ≤ 1100000) :
    SeqL E Try.prog 119 #[.pointer (some ⟨Bf, 0, none⟩)] (fun k : KeyD => #[k.v]) n₀ (keysOfS zs) w := by
  intro l J Jx W hW hJ hJx hY h0
  have hf' : W.cell? ⟨Bf, 0, none⟩ = some (.func (.func gf) #[] lb) := (hW.cell (p := ⟨Bf, 0, none⟩) (show Bf < w.heap.size by omega)).trans hf
  have hnW : n₀ ≤ W.heap.size := Nat.le_trans hn₀ hW.size
  have HR : Hid (∀ z ∈ zs, ∀ V, Below n₀ W V → Reads V n₀ (.slice z.A z.ks.length z.c) (keysD z.ks)) := Lib.hid (fun z hz V hV => (hr z hz).keep ((hW.mono hn₀).trans hV).block)
  have HL := Lib.hid hl
  have HY := Lib.hid hY
  have HJ := Lib.hid hJ
  have HJx := Lib.hid hJx
  have HSQ := Lib.hid hseq
  have HW := Lib.hid hW
  have H0 := Lib.hid h0
  clear hf hr hl hW hY hJ hJx hseq h0
  refine (callsIn_wide (n := 3)).1 ?_
  refine callsIn_of_wp_marks Try.func119 rfl trivial ?_ rfl
  simp only [Try.ntmps119, List.size_toArray, List.length_cons, List.length_nil, Nat.reduceAdd, Nat.reduceSub, Array.replicate_succ, Array.replicate_zero, List.push_toArray, List.append_toArray, List.nil_append, List.cons_append]
  have hf2 : (W.alloc (.cells #[.func (.yield l) #[] #[]] 134)).cell? ⟨Bf, 0, none⟩ = some (.func (.func gf) #[] lb) := ((bal1 W _).cell (p := ⟨Bf, 0, none⟩) (show Bf < W.heap.size by omega)).trans hf'
  gi_wp2
  clear hf2 hf'
  have QY := al1 W (.cells #[.func (.yield l) #[] #[]] 134)
  have hBW := bal1 W (.cells #[.func (.yield l) #[] #[]] 134)
  have hsz : (W.alloc (.cells #[.func (.yield l) #[] #[]] 134)).heap.size = W.heap.size + 1 := by simp
  have H1 := Lib.hid (HJ.out.alloc (.cells #[.func (.yield l) #[] #[]] 134) H0.out)
  generalize W.alloc (.cells #[.func (.yield l) #[] #[]] 134) = W0 at *
  refine rangeL (gf := gf) (lb := lb) rfl eg HSQ.out (bstep HW.out hBW) (by omega) (fun _ => rfl)
    (fun pre V => J (keysOfS pre) V ∧ V.heap[W.heap.size]? = some (.cells #[.func (.yield l) #[] #[]] 134 (0, 0)) ∧ Below n₀ W V)
    (fun c pre V => c = .ret ∧ ∃ q, q <+: keysOfS zs ∧ Jx q V)
    (fun s A B row hs hg hr => ⟨HJ.out _ A B row hs.1 hg (fun r e => ⟨by have := (hr r e).1; omega, (hr r e).2⟩), by
      refine (hg.block _ (Array.getElem?_eq_some_iff.1 hs.2.1).1 (fun e => ?_)).trans hs.2.1
      have := (hr _ e.symm).1
      omega, ownFrom_below (β := Unit) hnW (show n₀ ≤ W0.heap.size by omega) () A B row hs.2.2 hg hr⟩)
    (fun c s A B row hs hg hr => by
      obtain ⟨h1, q, h2, h3⟩ := hs
      exact ⟨h1, q, h2, HJx.out _ A B row h3 hg (fun r e => ⟨by have := (hr r e).1; omega, (hr r e).2⟩)⟩)
    ⟨H1.out, QY, hBW.mono hnW⟩
    (fun x a' _ => a' = { tmps := #[.func (.yield l) #[] #[], .pointer (some ⟨Bf, 0, none⟩), .pointer (some ⟨W.heap.size, 0, none⟩), undef, .slice x.A x.ks.length x.c, undef, undef, .func (.func gf) #[] lb, .int .i64 (x.i : Int), .slice x.A x.ks.length x.c, undef, undef, undef, undef, undef, undef, undef, undef, undef, undef, undef], defers := [] })
    (fun x a' => fun _ _ _ _ hs _ _ => hs)
    ?assign ?body ?done ?stop
  case assign =>
    intro l' pre x V K hpx hi hK
    simp only [encS]
    gi_wp2
    exact hK _ _ (Only.refl _ _) hi rfl
  case body =>
    rintro l' pre x a' V hpx ⟨hj, hbox, hB⟩ rfl
    have hx : x ∈ zs := by
      obtain ⟨t, rfl⟩ := hpx
      simp
    have HRx := Lib.hid (HR.out x hx)
    have hlx := HL.out x hx
    have HP := Lib.hid hpx
    have HB := Lib.hid hB
    have HQ := Lib.hid hbox
    have HJ0 := Lib.hid hj
    have hzV := hB.size
    clear hpx hj hbox hB hx
    gi_wp2
    gi_loopw [12] (fun i wr => ∃ k : Nat, k ≤ x.ks.length ∧ i = .int .i64 k ∧ Hid (J (keysOfS pre ++ x.ks.take k) wr) ∧ Hid (Kept E n₀ W.heap.size V wr)) (fun i _ => x.ks.length - (intOf i).toNat)
    case atStart => exact ⟨0, Nat.zero_le _, rfl, Lib.hid (by rw [List.take_zero, List.append_nil]; exact HJ0.out), Lib.hid (Kept.refl _ _ _ _)⟩
    case round =>
      obtain ⟨k, hk, rfl, HK, HO⟩ := hrel
      have hzo := HO.out.size
      by_cases hlt : k < x.ks.length
      · have hbw := HB.out.trans (only_below HO.out (Nat.le_trans hnW hzV))
        obtain ⟨b, off, hA, hbb, hc⟩ := (HRx.out wr hbw).keys hlt
        obtain ⟨c0, c1, c2, c3, c4⟩ := hc k hlt
        have qy := HO.out.box HQ.out (Nat.le_refl _) (hE _)
        obtain ⟨z0, z1⟩ := box1N (box_on qy (bal1 wr (.cells #[.int .i64 (x.ks[k]).a, .int .i64 (x.ks[k]).b, .int .i64 (x.ks[k]).c, .int .i64 (x.ks[k]).d, .int .i64 (x.ks[k]).e] 75)))
        obtain ⟨fn, tmps, assign, body, hy, hR⟩ := HY.out _ x.ks[k] (wr.alloc (.cells #[.int .i64 (x.ks[k]).a, .int .i64 (x.ks[k]).b, .int .i64 (x.ks[k]).c, .int .i64 (x.ks[k]).d, .int .i64 (x.ks[k]).e] 75)) (key_pre HP.out hlt) (HJ.out.alloc _ HK.out)
        unfold KeyD.v keyV at hy
        have HRo := Lib.hid hR
        have HT : Hid (keysOfS pre ++ x.ks.take (k + 1) = (keysOfS pre ++ x.ks.take k) ++ [x.ks[k]]) := Lib.hid (by rw [List.take_succ_eq_append_getElem hlt, List.append_assoc])
        have i2 : (k : Int) < (x.ks.length : Int) := by omega
        have i3 : (0 : Int) ≤ (k : Int) := by omega
        clear hc hR hbw qy
        rw [hA] at *
        gi_wp2
        refine RoundIn.mono (round_in (HRo.out _)) ?_
        rintro e W3 (⟨rfl, hJ3, ho3⟩ | ⟨rfl, hJx3, ho3⟩)
        · have HO3 := Lib.hid ((HO.out.trans (Kept.of_below (bal1 _ _) _ _ _)).trans ho3)
          have HJ3 := Lib.hid hJ3
          clear hJ3 ho3 c0 c1 c2 c3 c4 z0 z1 hy
          gi_wp2
          go_roundw
          case rel => exact ⟨k + 1, by omega, by go_num, Lib.hid (by rw [HT.out]; exact HJ3.out), HO3⟩
          case measure => simp [intOf]; omega
        · have HO3 := Lib.hid (((HO.out.trans (Kept.of_below (bal1 _ _) _ _ _)).mono (Nat.zero_le _) (Nat.le_refl _)).trans ho3)
          have HJ3 := Lib.hid hJx3
          clear hJx3 ho3 c0 c1 c2 c3 c4 z0 z1 hy
          gi_wp2
          exact ⟨HO3.out.mono (Nat.le_refl _) (by omega), rfl, _, key_pre HP.out hlt, HJ3.out⟩
      · have e : k = x.ks.length := by omega
        subst e
        have hK2 := HK.out
        rw [List.take_length, ← keysOfS_snoc] at hK2
        have HK2 := Lib.hid hK2
        clear hK2
        gi_wp2
        exact ⟨HO.out.mono (Nat.le_refl _) (by omega), HK2.out, HO.out.box HQ.out (Nat.le_refl _) (hE _), HB.out.trans (only_below HO.out (Nat.le_trans hnW hzV))⟩
  case done =>
    rintro D V hD ⟨hj, _, _⟩ hK
    gi_wp2
    refine ⟨by simp, .inl ⟨_, _, rfl, run_takeDeferred hK, ?_⟩⟩
    refine ⟨_, results_none rfl _ _ _, ⟨_, rfl⟩, .inl (HJ.out.putObj _ hj (by omega) hK rfl)⟩
  case stop =>
    rintro D c pre V hD _ ⟨rfl, q, hq, hj⟩ hK
    gi_wp2
    refine ⟨by simp, .inl ⟨_, _, rfl, run_takeDeferred hK, ?_⟩⟩
    refine ⟨_, results_none rfl _ _ _, ⟨_, rfl⟩, .inr ⟨q, hq, HJx.out.putObj _ hj (by omega) hK rfl⟩⟩
end Go.Proofs.Ytmpgmjnagpiijaa
