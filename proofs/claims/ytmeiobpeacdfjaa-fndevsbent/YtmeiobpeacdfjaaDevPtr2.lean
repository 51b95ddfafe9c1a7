/- The contract of spec.l2Flush over a device in a box of the call's own. Conditions: the device is valid. -/
import Derived.Test.YtmeiobpeacdfjaaDevPtr
import Derived.StillTailTactics
namespace Go.Proofs.Ytmeiobpeacdfjaa
open Go.RowKit
set_option maxRecDepth 100000
set_option linter.unusedSimpArgs false
set_option linter.unusedVariables false

def FlIn (w1 : World) (p : Nat) (A0 A1 : Option Addr) (c0 c1 : Nat) (d : DevD) (zs : List Value) (T : Nat → Prop) (k : Nat) (wr : World) : Prop :=
  ∃ ys, wr.ownsRow 0 22 1 (.slice A0 d.secs.length c0) d.secs.length ys ∧ OwnsL wr T (ys ++ zs.drop (k * 2)) ((appK all_ d.secs d.cache k).map bytesD ++ (d.cache.flatMap wrC).drop (k * 2)) ∧ At wr A1 zs ∧ wr.heap[p]? = some (.cells #[.slice A0 d.secs.length c0, .slice A1 d.cache.length c1, .int .i64 d.fuse, .bool d.down] 27) ∧ Only (fun x => (Value.slice A0 d.secs.length c0).ownBlock = some x) w1 wr
theorem At.far {w w' : World} {A : Option Addr} {xs : List Value} {T : Nat → Prop} (h : At w A xs) (hO : Only T w w') (hA : ∀ b off, A = some ⟨b, off, none⟩ → ¬ T b) : At w' A xs := by
  rcases h with rfl | ⟨b, off, rfl, hc⟩
  · exact .inl rfl
  · exact .inr ⟨b, off, rfl, fun i hi => (World.cell?_of_block (a := ⟨b, off + i, none⟩) (hO.block b (World.block_lt_of_cell? w _ (hc i hi)) (hA b off rfl))).trans (hc i hi)⟩
theorem dev_split2 {w : World} {S : Nat → Prop} {v0 v1 : Value} {d : DevD} {f : Int} {dn : Bool} (h : OwnDev w S (.agg #[v0, v1, .int .i64 f, .bool dn]) d) :
    ∃ xs zs T, w.ownsRow 0 22 1 v0 d.secs.length xs ∧ w.ownsRow 0 78 2 v1 d.cache.length zs ∧ OwnsL w T (xs ++ zs) (d.secs.map bytesD ++ d.cache.flatMap wrC) ∧ (∀ x, T x → S x ∧ v0.ownBlock ≠ some x) ∧ (∀ g, v0.ownBlock = some g → S g) ∧ (∀ g, v1.ownBlock = some g → v0.ownBlock ≠ some g) := by
  obtain ⟨u0, u1, he, ol⟩ := h
  simp at he
  obtain ⟨rfl, rfl, _, _⟩ := he
  obtain ⟨S0, S1, s0, s1, h0, h1, hdj⟩ := ol.pair
  obtain ⟨xs, r0, o0, g0⟩ := s0.rowL 0 (fun b _ => Nat.zero_le _)
  obtain ⟨zs, r1, o1, g1⟩ := s1.rowL 0 (fun b _ => Nat.zero_le _)
  refine ⟨xs, zs, fun x => (S0 x ∧ v0.ownBlock ≠ some x) ∨ (S1 x ∧ v1.ownBlock ≠ some x), r0, r1, o0.append o1 (fun b hb => .inl hb) (fun b hb => .inr hb) (fun b hb hb' => hdj b hb.1 hb'.1), ?_, fun g hg => h0 g (g0 g hg), fun g hg hg' => hdj g (g0 g hg') (g1 g hg)⟩
  rintro x (⟨hx, hne⟩ | ⟨hx, hne⟩)
  · exact ⟨h0 x hx, hne⟩
  · exact ⟨h1 x hx, fun h => hdj x (g0 x h) hx⟩
set_option maxHeartbeats 2000000 in
set_option maxRecDepth 100000 in
theorem l2Flush_any (p : Nat) (d : DevD) (S : Nat → Prop) (w : World) (hd : PDev w p S d) (hok : okD d = true) :
    Calls Try.prog 71 #[.pointer (some ⟨p, 0, none⟩)] w (PTo w p S (flushD d)) := by
  have OK := Lib.hid hok
  have FB := (okD_iff _).1 hok
  have f1 : d.fuse ≤ 1000 := FB.2.2.2.2.2.2
  have sl : d.secs.length ≤ 60 := FB.2.1
  have cl : d.cache.length ≤ 60 := FB.2.2.1
  have PS := Lib.hid FB.2.2.2.2.1
  obtain ⟨A0, c0, A1, c1, q, od, hSp⟩ := hd
  obtain ⟨x0, x1, x2, x3, x4⟩ := box4 q
  have Q := Lib.hid q
  have OD := Lib.hid od
  have HSP := Lib.hid hSp
  have hpl : p < w.heap.size := (Array.getElem?_eq_some_iff.1 q).1
  have SAME : Hid (¬ (okD d = true ∧ d.down = false) → PTo w p S (flushD d) (.returned (.tuple #[])) w) := Lib.hid (fun h => ⟨rfl, by rw [flushD_no h]; exact ⟨A0, c0, A1, c1, q, od.mono (fun b hb => .inl hb), fun h => h.elim hSp (fun h => by omega)⟩, Only.refl _ _⟩)
  clear FB hok q od hSp
  obtain ⟨ss, cs, f, dn⟩ := d
  dsimp only at *
  cases dn
  · go_enter Try.func71, Try.ntmps71
    go_wp2_with fail
    refine (l2Op_any p _ _ f false _ Q.out (by omega)).mono ?_
    rintro e w2 ⟨rfl, q2, o2⟩
    have hz2 := o2.size
    clear x0 x1 x2 x3 x4
    by_cases hf : f = 0
    · subst hf
      have e1 : spendF 0 = -1 := rfl
      have e2 : downF 0 false = true := rfl
      rw [e1, e2] at q2
      have FIN : Hid (PTo w p S (flushD ⟨ss, cs, 0, false⟩) (.returned (.tuple #[])) w2) := by
        refine Lib.hid ⟨rfl, ?_, o2.mono (fun x hx => .inl hx)⟩
        rw [flushD_down ⟨OK.out, rfl⟩ rfl]
        exact ⟨A0, c0, A1, c1, q2, (OD.out.turn.far o2 (fun b hb _ hb' => HSP.out (hb' ▸ hb))).mono (fun b hb => .inl hb), fun h => h.elim HSP.out (fun h => by omega)⟩
      clear q2 o2
      go_wp2
      exact bodyPost_ret (v := .tuple #[]) (by simp [results, Try.results71, go_sem]) rfl FIN.out
    · have e2 : downF f false = false := if_neg hf
      rw [e2] at q2
      have HF := Lib.hid hf
      have KB : (f == 0) = false := by simpa using hf
      rw [KB]
      have OS := OD.out.turn (f' := spendF f) (b' := false)
      have hf9 : spendF f ≤ 1000000 := by unfold spendF; split <;> (try split) <;> omega
      generalize hf2 : spendF f = f2 at *
      have HF2 := Lib.hid hf2
      clear hf2 e2 hf KB
      have O5 := (OS.far o2 (fun b hb _ hb' => HSP.out (hb' ▸ hb))).lt
      obtain ⟨xs, zs, T, r0, r1, ol, hT, hS, h01⟩ := dev_split2 O5
      have hzl : xs.length = ss.length := by have h := r0.1; simpa using h
      have RZ : Hid (ReadsL w2 w2.heap.size zs (cs.flatMap wrC)) := by
        have h := ol.reads
        refine Lib.hid ⟨by have := h.1; simp only [List.length_append, List.length_map] at this; omega, fun i a c => ?_⟩
        have := h.2 (xs.length + i) (by simp; omega) (by simp only [List.length_append, List.length_map]; omega)
        rw [List.getElem_append_right (by omega), List.getElem_append_right (by simp; omega)] at this
        simpa [hzl] using this
      have REL : Hid (FlIn w2 p A0 A1 c0 c1 ⟨ss, cs, f2, false⟩ zs T 0 w2) := Lib.hid ⟨xs, r0, by simpa [appK] using ol, row_at r1, q2, Only.refl _ _⟩
      have HT := Lib.hid hT
      have HSS := Lib.hid hS
      have H01 : Hid (∀ b off, A1 = some ⟨b, off, none⟩ → (Value.slice A0 ss.length c0).ownBlock ≠ some b) := Lib.hid (fun b off h => h01 b (by rw [h]; rfl))
      have HO2 := Lib.hid o2
      have HPU : Hid ((Value.slice A0 ss.length c0).ownBlock ≠ some p) := Lib.hid (fun h => HSP.out (hS p h).1)
      have R0 := Lib.hid r0
      clear r0 r1 ol hT hS h01 O5 OS q2 o2 hzl
      go_wp2
      go_loopw [2] (fun i wr => ∃ k : Nat, k ≤ cs.length ∧ i = .int .i64 k ∧ Hid (FlIn w2 p A0 A1 c0 c1 ⟨ss, cs, f2, false⟩ zs T k wr)) (fun i _ => cs.length - (intOf i).toNat)
      case atStart => exact ⟨0, Nat.zero_le _, rfl, REL⟩
      case round =>
        obtain ⟨k, hk, rfl, HC⟩ := hrel
        obtain ⟨ys, hr, ho, ha, hq, hO⟩ := HC.out
        dsimp only at hr ho hq hO
        obtain ⟨x0, x1, x2, x3, x4⟩ := box4 hq
        by_cases hlt : k < cs.length
        · obtain ⟨A, c, e0, e1, hrd, ev⟩ := wr_cells RZ.out hlt
          have hzl : zs.length = cs.length * 2 := by rw [RZ.out.1, cache_len]
          have hyl : ys.length = ss.length := by rw [hr.1]; omega
          obtain ⟨b, off, rfl, hc⟩ : ∃ b off, A1 = some ⟨b, off, none⟩ ∧ ∀ i (h : i < zs.length), wr.cell? ⟨b, off + i, none⟩ = some zs[i] := by
            rcases ha with h | h
            · subst h; simp at hzl; omega
            · exact h
          have hpk := PS.out cs[k] (List.getElem_mem _)
          obtain ⟨m, hm0⟩ : ∃ m : Nat, (cs[k]).1 = (m : Int) := ⟨(cs[k]).1.toNat, by omega⟩
          have hml : m < ss.length := by omega
          have y0 : wr.cell? ⟨b, off + k * 2, none⟩ = some (.int .i64 (m : Int)) := by
            have h := hc (k * 2) (by omega)
            rw [List.getElem?_eq_getElem (by omega)] at e0
            rw [h, Option.some.inj e0, hm0]
          have y1 : wr.cell? ⟨b, off + k * 2 + 1, none⟩ = some (.slice A (cs[k]).2.length c) := by
            have h := hc (k * 2 + 1) (by omega)
            rw [List.getElem?_eq_getElem (by omega)] at e1
            rw [Nat.add_assoc, h, Option.some.inj e1]
          rw [cons2 e0 e1, cons2D hlt] at ho
          rcases row_cases hr with ⟨_, h, _⟩ | ⟨g, cap, hu, hbg, hR, hnc, hcm, hl⟩
          · omega
          · cases hu
            have cc := hR.cell (i := m) (by omega)
            have ff := hR.frozen m
            generalize hyy : ys[m]'(by omega) = yy at cc
            have i1 : (m : Int) < (ss.length : Int) := by omega
            have i2 : (0 : Int) ≤ (m : Int) := by omega
            have i3 : (k : Int) < (cs.length : Int) := by omega
            have i4 : (0 : Int) ≤ (k : Int) := by omega
            have NEW : Hid (FlIn w2 p (some ⟨g, 0, none⟩) (some ⟨b, off, none⟩) c0 c1 ⟨ss, cs, f2, false⟩ zs T (k + 1) (wr.drew.setCell ⟨g, m, none⟩ (.slice A (cs[k]).2.length c))) := by
              have hd0 : Below wr.heap.size wr wr.drew := (Below.refl _ _).drew
              refine Lib.hid ⟨ys.set m (.slice A (cs[k]).2.length c), row_set (row_on hr hd0) m _, ?_, ?_, box_far (box_on hq hd0) (fun h => HPU.out (by rw [h]; rfl)), (hO.trans (Only.of_below hd0 _)).setCell (g := g) rfl _⟩
              · rw [appK_yes hlt rfl, List.map_set, show (cs[k]).1.toNat = m by rw [hm0]; simp]
                have h := ho.move (n := m) (by simp [appK_length]; omega)
                exact (h.on hd0).keep (fun b' hb' _ => Below.heap_setCell _ _ _ _ (fun h => (HT.out b' hb').2 (by rw [h]; rfl)))
              · exact (ha.on hd0).far ((Only.refl (fun x => x = g) wr.drew).setCell (j := m) rfl (.slice A (cs[k]).2.length c)) (fun b' off' h hb' => H01.out b' off' h (by rw [hb']; rfl))
            clear hr ho ha hq hO HC hc e0 e1 ev hrd hpk hm0 hR hyy hzl
            go_wp2
            go_still_tail 21, (by kernel_rfl)
            change wpList _ _ _ _ _ wr.drew
            have ccd : wr.drew.cell? ⟨g, m, none⟩ = some yy := cc
            have ffd : wr.drew.frozen? ⟨g, m, none⟩ = false := ff
            generalize wr.drew = wd at NEW ccd ffd ⊢
            go_wp2
            go_roundw
            case rel => exact ⟨k + 1, by omega, by go_num, NEW⟩
            case measure => simp [intOf]; omega
        · have e : k = cs.length := by omega
          have hcl := cache_len cs
          have hzl : zs.length = cs.length * 2 := by rw [RZ.out.1, hcl]
          have HO : Hid (OwnsL wr T ys ((appK all_ ss cs cs.length).map bytesD)) := by
            have h := ho
            rw [List.drop_of_length_le (by omega), List.drop_of_length_le (by omega), List.append_nil, List.append_nil, e] at h
            exact Lib.hid h
          have hzr := hO.size
          have hpr : p < wr.heap.size := by omega
          have FIN : Hid (PTo w p S (flushD ⟨ss, cs, f, false⟩) (.returned (.tuple #[])) ((wr.setCell ⟨p, 1, none⟩ (.slice (some ⟨wr.heap.size, 0, none⟩) 0 0)).alloc (.cells #[] 78))) := by
            have hb0 : Below wr.heap.size (wr.setCell ⟨p, 1, none⟩ (.slice (some ⟨wr.heap.size, 0, none⟩) 0 0)) ((wr.setCell ⟨p, 1, none⟩ (.slice (some ⟨wr.heap.size, 0, none⟩) 0 0)).alloc (.cells #[] 78)) := by have h := bal1 (wr.setCell ⟨p, 1, none⟩ (.slice (some ⟨wr.heap.size, 0, none⟩) 0 0)) (.cells #[] 78); simpa using h
            have hk2 : ∀ x, x < wr.heap.size → x ≠ p → ((wr.setCell ⟨p, 1, none⟩ (.slice (some ⟨wr.heap.size, 0, none⟩) 0 0)).alloc (.cells #[] 78)).heap[x]? = wr.heap[x]? := fun x hx hxp => (hb0.block x hx).trans (Below.heap_setCell _ _ _ _ (by simpa using hxp))
            refine Lib.hid ⟨rfl, ?_, ?_⟩
            · rw [flushD_yes ⟨OK.out, rfl⟩ HF.out]
              dsimp only
              rw [HF2.out]
              have hql : (appK all_ ss cs cs.length).length = ss.length := appK_length _ _ _ _
              refine ⟨A0, c0, some ⟨wr.heap.size, 0, none⟩, 0, ?_, ?_, fun h => h.elim HSP.out (fun h => by omega)⟩
              · rw [hql]
                exact (hb0.block p (by omega)).trans (box_set hq)
              · rw [hql]
                have hrow2 : ((wr.setCell ⟨p, 1, none⟩ (.slice (some ⟨wr.heap.size, 0, none⟩) 0 0)).alloc (.cells #[] 78)).ownsRow 0 22 1 (.slice A0 ss.length c0) (appK all_ ss cs cs.length).length ys := by
                  rw [hql]
                  exact row_keep hr (fun g hg => hk2 g (row_lt hr g hg).1 (fun h => HPU.out (h ▸ hg)))
                have hol2 := HO.out.keep (w' := (wr.setCell ⟨p, 1, none⟩ (.slice (some ⟨wr.heap.size, 0, none⟩) 0 0)).alloc (.cells #[] 78)) (fun b' hb' hl' => hk2 b' hl' (fun h => HSP.out (h ▸ (HT.out b' hb').1.1)))
                have hlit := row_lit (wr.setCell ⟨p, 1, none⟩ (.slice (some ⟨wr.heap.size, 0, none⟩) 0 0)) 78 2
                refine ⟨_, _, rfl, OwnsL.two (S := fun x => S x ∧ x < w2.heap.size) (T := fun x => wr.heap.size ≤ x) (row_ownsS hrow2 _ (fun g hg => HSS.out g hg) (hol2.mono (fun x hx => HT.out x hx)) (by simp)) ?_ (fun b hb => .inl hb.1) (fun b hb => .inr (by omega)) (fun b hb hb' => by have := hb.2; omega)⟩
                have h := row_owns hlit (OwnsL.nil _ _) rfl
                simpa [cacheD] using h
            · exact (((HO2.out.mono (fun x hx => .inl hx)).trans (hO.mono (fun x hx => .inr (HSS.out x hx).1))).setCell (.inl rfl) _).trans (Only.of_below (bal1 _ _) _)
          clear hr ho ha hq hO HC hcl hzl HO
          go_wp2
          exact bodyPost_ret (v := .tuple #[]) (by simp [results, Try.results71, go_sem]) rfl FIN.out
  · go_enter Try.func71, Try.ntmps71
    go_wp2
    exact bodyPost_ret (v := .tuple #[]) (by simp [results, Try.results71, go_sem]) rfl (SAME.out (fun h => by cases h.2))
end Go.Proofs.Ytmeiobpeacdfjaa
