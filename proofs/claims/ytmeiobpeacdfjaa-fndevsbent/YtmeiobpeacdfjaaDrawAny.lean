/- Contract of spec.l2Any: a device, valid or not, none of whose slices is long, in memory of its own. Conditions: the cursor lies in its block. -/
import Derived.Test.YtmeiobpeacdfjaaDevAnyA
import Derived.Test.YtmeiobpeacdfjaaLast3
import Derived.Deep.DeepCutAuto
namespace Go.Proofs.Ytmeiobpeacdfjaa
open Go.RowKit
set_option maxRecDepth 100000
set_option linter.unusedSimpArgs false
set_option linter.unusedVariables false

set_option maxHeartbeats 4000000 in
theorem l2Any_any (p : Nat) (w : World) (hc : Cur w p) : Calls Try.prog 56 #[.pointer (some ⟨p, 0, none⟩)] w (AnyDev w p) := by
  have hp := hc.lt
  have q0 := al1 w (.cells #[.slice none 0 0, .slice none 0 0, .int .i64 0, .bool false] 27)
  have hc0 := hc.alloc (.cells #[.slice none 0 0, .slice none 0 0, .int .i64 0, .bool false] 27)
  have HB0 := Lib.hid (Only.of_below (bal1 w (.cells #[.slice none 0 0, .slice none 0 0, .int .i64 0, .bool false] 27)) (fun x => x = p))
  clear hc
  go_enter Try.func56, Try.ntmps56
  go_wp2_with fail
  refine (l2Draw_any p _ hc0).mono ?_
  rintro e w2 ⟨v, d, rfl, o2, dd, c2, g2⟩
  obtain ⟨A0, c0, A1, c1, rfl⟩ := o2.rd.shape
  have q2 := box_only q0 g2 (by omega)
  have O2 := Lib.hid (HB0.out.trans g2)
  have hz2 := g2.size
  simp only [World.size_alloc] at hz2
  have o2' := Lib.hid (o2.mono (T := fun x => w.heap.size + 1 ≤ x) (fun b hb => by simpa using hb))
  have bb := bal1 w2 (.cells #[.slice A0 d.secs.length c0, .slice A1 d.cache.length c1, .int .i64 d.fuse, .bool d.down] 27)
  have P2 : Hid (PDev (w2.alloc (.cells #[.slice A0 d.secs.length c0, .slice A1 d.cache.length c1, .int .i64 d.fuse, .bool d.down] 27)) w2.heap.size (SDev w.heap.size w2.heap.size) d) := Lib.hid ⟨A0, c0, A1, c1, al1 _ _, (o2'.out.lt.on bb).mono (fun b hb => ⟨by have := hb.1; omega, by have := hb.2; omega⟩), fun h => h.2 rfl⟩
  have hc3 := c2.on bb
  have Q3 := Lib.hid (box_on q2 bb)
  have O3 := Lib.hid (O2.out.trans (Only.of_below bb _))
  have hqp : w2.heap.size ≠ p := by have := c2.lt; omega
  have hqz : w.heap.size < w2.heap.size := by omega
  have SD := Lib.hid (drawn_small (m := 7) dd.1)
  have hsec := dd.2.2.2.1
  have hcl := dd.2.2.2.2.2
  clear q0 hc0 HB0 o2 dd c2 g2 q2 O2 o2' bb
  go_wp2_with fail
  refine (l1Below_any p 12 _ hc3 (by omega) (by omega)).mono ?_
  rintro e w4 ⟨j, hj, rfl, hc4, hg4⟩
  have PD := Lib.hid (P2.out.only (only_of hg4) (fun h => by have := h.1; omega) hqp)
  have QZ := Lib.hid (box_only Q3.out (only_of hg4) (by omega))
  have OO4 := Lib.hid (O3.out.trans (only_of hg4))
  have CC := Lib.hid hc4
  have hz4 := hg4.size
  simp only [World.size_alloc] at hz4
  clear P2 Q3 O3 hc3 hc4 hg4
  generalize w2.heap.size = q at *
  by_cases j0 : j = 0
  · subst j0
    obtain ⟨A0, c0, A1, c1, hq, od, hSp⟩ := PD.out
    obtain ⟨g, rfl, hSg, _⟩ := od.sec0 (by omega)
    have hgq : ¬ g = q := fun h => hSg.2 h
    have hS1g := hSg.1
    clear hSg
    have QB := Lib.hid hq
    have HSP := Lib.hid (show ¬ SDev w.heap.size q p from fun h => by have := h.1; omega)
    have CD := Lib.hid (CC.out.keep (w' := w4.drew) (fun _ _ => rfl))
    clear hq
    go_upto_region 4 with (fail)
    refine but_begin (f := 7) (S := fun V => V.heap[q]? = some (.cells #[.slice (some ⟨g, 0, none⟩) d.secs.length c0, .slice A1 d.cache.length c1, .int .i64 d.fuse, .bool d.down] 27)) (by kernel_rfl) ?_
    refine but_take (f := 7) (i := 0) (v := ?va0) rfl (by kernel_rfl) (by kernel_rfl) (by kernel_rfl) (by kernel_rfl) (by kernel_rfl) (fun _ _ _ h => h) (Or.inl ⟨(by rfl), ?hya0⟩) (show w4.drew.heap[q]? = some _ from QB.out) ?resta0
    case hya0 =>
      intro W hW
      go_simp
      exact rfl
    simp only [List.getElem_toArray, List.getElem_cons_succ, List.getElem_cons_zero, Act.put, List.setIfInBounds_toArray, List.set_cons_zero, List.set_cons_succ]
    refine but_take (f := 7) (i := 1) (v := ?va1) rfl (by kernel_rfl) (by kernel_rfl) (by kernel_rfl) (by kernel_rfl) (by kernel_rfl) (fun _ _ _ h => h) (Or.inl ⟨(by rfl), ?hya1⟩) (show w4.drew.heap[q]? = some _ from QB.out) ?resta1
    case hya1 =>
      intro W hW
      obtain ⟨x0, x1, x2, x3, x4⟩ := box4 hW
      go_simp
      exact rfl
    simp only [List.getElem_toArray, List.getElem_cons_succ, List.getElem_cons_zero, Act.put, List.setIfInBounds_toArray, List.set_cons_zero, List.set_cons_succ]
    refine but_take (f := 7) (i := 2) (v := ?va2) rfl (by kernel_rfl) (by kernel_rfl) (by kernel_rfl) (by kernel_rfl) (by kernel_rfl) (fun _ _ _ h => h) (Or.inl ⟨(by rfl), ?hya2⟩) (show w4.drew.heap[q]? = some _ from QB.out) ?resta2
    case hya2 =>
      intro W hW
      go_simp
      exact rfl
    simp only [List.getElem_toArray, List.getElem_cons_succ, List.getElem_cons_zero, Act.put, List.setIfInBounds_toArray, List.set_cons_zero, List.set_cons_succ]
    refine but_run (i := 3) (by kernel_rfl) rfl (by rfl) ?_
    simp only [List.getElem_toArray, List.getElem_cons_succ, List.getElem_cons_zero]
    intro K HK
    go_wp2_with fail
    refine (l1Below_any p 2 _ CD.out (by omega) (by omega)).mono ?_
    rintro r Va1 ⟨j2, hj2, rfl, hc5, hg5⟩
    go_wp2_with fail
    have hSa1 : (fun V => V.heap[q]? = some (.cells #[.slice (some ⟨g, 0, none⟩) d.secs.length c0, .slice A1 d.cache.length c1, .int .i64 d.fuse, .bool d.down] 27)) Va1 := box_only (show w4.drew.heap[q]? = some _ from QB.out) (only_of hg5) hqp
    refine HK.out _ _ (fun _ => hSa1) ?_
    clear HK
    have O5 := (Only.of_below ((Below.refl w4.heap.size w4).drew) _).trans (only_of hg5)
    obtain ⟨g', hg', _, hgl, hgf, cu, hgc, GNEW⟩ := (od.far (T := fun x => x = p) O5 (fun b hb _ hb' => HSP.out (hb' ▸ hb))).sec0 (by omega)
    cases hg'
    have HNEW := Lib.hid GNEW
    have QZ5 := Lib.hid (box_only QZ.out O5 (by omega))
    have OO5 := Lib.hid (OO4.out.trans O5)
    have HC5 := Lib.hid hc5
    have hz5 := O5.size
    have hj3 : j2 < 2 := by omega
    have i5 : IntKind.i64.wrap (80 + (j2 : Int)) = 80 + (j2 : Int) := by rw [IntKind.wrap_i64]; omega
    have hmk : ∀ w, (Instr.makeSlice 22 (.int .i64 (80 + (j2 : Int))) (.int .i64 (80 + (j2 : Int)))).run Try.prog w = .ok (.slice (some ⟨w.heap.size, 0, none⟩) (80 + j2) (80 + j2)) (w.alloc (.cells (madeCells #[.int .u8 0] (80 + j2)) 5)) := fun w => by
      have h := run_makeBytes (80 + j2) (by omega) w
      rw [show ((80 + j2 : Nat) : Int) = 80 + (j2 : Int) by omega] at h
      exact h
    have i6 : (0 : Int) < (d.secs.length : Int) := by omega
    have i7 : 0 < d.secs.length := by omega
    clear GNEW hc5 hg5 O5
    refine but_take (f := 7) (i := 4) (v := ?va4) rfl (by kernel_rfl) (by kernel_rfl) (by kernel_rfl) (by kernel_rfl) (by kernel_rfl) (fun _ _ _ h => h) (Or.inl ⟨(by rfl), ?hya4⟩) hSa1 ?resta4
    case hya4 =>
      intro W hW
      go_simp
      exact rfl
    simp only [List.getElem_toArray, List.getElem_cons_succ, List.getElem_cons_zero, Act.put, List.setIfInBounds_toArray, List.set_cons_zero, List.set_cons_succ]
    refine but_run (i := 5) (by kernel_rfl) rfl (by rfl) ?_
    simp only [List.getElem_toArray, List.getElem_cons_succ, List.getElem_cons_zero]
    intro K HK
    go_wp2_with fail
    have hSa2 : (fun V => V.heap[q]? = some (.cells #[.slice (some ⟨g, 0, none⟩) d.secs.length c0, .slice A1 d.cache.length c1, .int .i64 d.fuse, .bool d.down] 27)) (Va1.alloc (.cells (madeCells #[.int .u8 0] (80 + j2)) 5)) := box_on hSa1 (bal1 _ _)
    refine HK.out _ _ (fun _ => hSa2) ?_
    clear HK
    refine but_take (f := 7) (i := 6) (v := ?va6) rfl (by kernel_rfl) (by kernel_rfl) (by kernel_rfl) (by kernel_rfl) (by kernel_rfl) (fun _ _ _ h => h) (Or.inl ⟨(by rfl), ?hya6⟩) hSa2 ?resta6
    case hya6 =>
      intro W hW
      go_simp
      exact rfl
    simp only [List.getElem_toArray, List.getElem_cons_succ, List.getElem_cons_zero, Act.put, List.setIfInBounds_toArray, List.set_cons_zero, List.set_cons_succ]
    refine but_run (i := 7) (by kernel_rfl) rfl (by rfl) ?_
    simp only [List.getElem_toArray, List.getElem_cons_succ, List.getElem_cons_zero]
    intro K HK
    go_wp2_with fail
    refine HK.out _ _ (fun h => absurd rfl h) ?_
    clear HK
    refine but_done (by kernel_rfl) ?_
    have IN : Hid (AnyIn w p q ((Va1.setCell ⟨g, 0, none⟩ (.slice (some ⟨Va1.heap.size, 0, none⟩) (80 + j2) (80 + j2))).alloc (.cells (madeCells #[.int .u8 0] (80 + j2)) 5))) := by
      rw [← World.setCell_alloc_past _ _ _ _ hgl]
      have hsd := SD.out
      refine Lib.hid ⟨{ d with secs := d.secs.set 0 (List.replicate (80 + j2) 0) }, ⟨some ⟨g, 0, none⟩, c0, A1, c1, by simpa using box_far hSa2 (fun h => hgq h.symm), ?_, hSp⟩, ⟨by simpa using hsd.1, hsd.2.1, fun l hl => ?_, hsd.2.2.2⟩, ?_, box_far (box_on QZ5.out (bal1 _ _)) (by omega), (OO5.out.trans (Only.of_below (bal1 _ _) _)).setNew (by omega) _⟩
      · have h := (HNEW.out (80 + j2) (by omega)).mono (T := SDev w.heap.size q) (fun b hb => hb.elim (fun h => h) (fun h => ⟨by omega, by omega⟩))
        simpa using h
      · rcases List.mem_or_eq_of_mem_set hl with h | h
        · exact hsd.2.2.1 l h
        · subst h; simp; omega
      · exact (HC5.out.alloc _).only ((Only.refl (fun x => x = g) _).setCell rfl _) (fun x hx => by omega)
    clear HNEW HC5 QZ5 OO5 hSa1 hSa2 hgf hgc hmk od
    go_upto_region 16 with (fail)
    generalize ((Va1.setCell ⟨g, 0, none⟩ (.slice (some ⟨Va1.heap.size, 0, none⟩) (80 + j2) (80 + j2))).alloc (.cells (madeCells #[.int .u8 0] (80 + j2)) 5)) = U at *
    obtain ⟨d', pd', sd', hc', q0', o'⟩ := IN.out
    obtain ⟨A0', c0', A1', c1', hq', od', hn'⟩ := pd'
    obtain ⟨x0, x1, x2, x3, x4⟩ := box4 hq'
    obtain ⟨y0, y1, y2, y3, y4⟩ := box4 q0'
    have hz' := o'.size
    have OD' := Lib.hid od'
    have SD' := Lib.hid sd'
    have HC' := Lib.hid hc'
    have O' := Lib.hid o'
    have nq : ¬ q = w.heap.size := by omega
    have hpc := hc'.lt
    clear sd' hc' q0' o' IN hq' od' hn'
    go_wp2
    have OO : ∀ a b c d, Only (fun x => x = w.heap.size) U ((((U.setCell ⟨w.heap.size, 0, none⟩ a).setCell ⟨w.heap.size, 1, none⟩ b).setCell ⟨w.heap.size, 2, none⟩ c).setCell ⟨w.heap.size, 3, none⟩ d) := fun a b c d => ((((Only.refl (fun x => x = w.heap.size) U).setCell rfl _).setCell rfl _).setCell rfl _).setCell rfl _
    refine bodyPost_ret (v := .agg #[.slice A0' d'.secs.length c0', .slice A1' d'.cache.length c1', .int .i64 d'.fuse, .bool d'.down]) (by simp [results, Try.results56, go_sem, *]) rfl ⟨_, d', rfl, ?_, SD'.out, ?_, ?_⟩
    · exact (OD'.out.far (OO _ _ _ _) (fun b hb _ hb' => by have := hb.1; omega)).mono (fun b hb => by have := hb.1; omega)
    · exact HC'.out.only (OO _ _ _ _) (fun x hx => by omega)
    · exact ((((O'.out.setNew (Nat.le_refl _) _).setNew (Nat.le_refl _) _).setNew (Nat.le_refl _) _).setNew (Nat.le_refl _) _)
  · have e0 : ((j : Int) == 0) = false := by simp; omega
    by_cases j1 : j = 1
    · subst j1
      obtain ⟨A0, c0, A1, c1, hq, od, hSp⟩ := PD.out
      obtain ⟨u0, u1, he, ol⟩ := od.lt
      simp at he
      obtain ⟨rfl, rfl⟩ := he
      obtain ⟨S0, S1, s0, s1, hS0, hS1, hdj⟩ := ol.pair
      obtain ⟨xs, hrow, hxs, hg1⟩ := s1.rowL 0 (fun b hb => Nat.zero_le _)
      have QB := Lib.hid hq
      have ROW := Lib.hid hrow
      have HXS := Lib.hid hxs
      have HG1 := Lib.hid hg1
      have SS0 := Lib.hid s0
      have HS0 := Lib.hid hS0
      have HS1 := Lib.hid hS1
      have HDJ := Lib.hid hdj
      have HSq := Lib.hid hSp
      have HQ1 : Hid ((Value.slice A1 d.cache.length c1).ownBlock ≠ some q) := Lib.hid (fun h => hSp (hS1 _ (hg1 _ h)).1)
      have HP1 : Hid (∀ b, (Value.slice A1 d.cache.length c1).ownBlock = some b → w.heap.size < b) := Lib.hid (fun b h => (hS1 _ (hg1 _ h)).1.1)
      clear hq od ol s0 s1 hS0 hS1 hdj hrow hxs hg1
      go_upto_region 6 with (fail)
      refine but_begin (f := 11) (S := fun V => V.heap[q]? = some (.cells #[.slice A0 d.secs.length c0, .slice A1 d.cache.length c1, .int .i64 d.fuse, .bool d.down] 27)) (by kernel_rfl) ?_
      refine but_take (f := 11) (i := 0) (v := ?vb0) rfl (by kernel_rfl) (by kernel_rfl) (by kernel_rfl) (by kernel_rfl) (by kernel_rfl) (fun _ _ _ h => h) (Or.inl ⟨(by rfl), ?hyb0⟩) (show w4.drew.heap[q]? = some _ from QB.out) ?restb0
      case hyb0 =>
        intro W hW
        go_simp
        exact rfl
      simp only [List.getElem_toArray, List.getElem_cons_succ, List.getElem_cons_zero, Act.put, List.setIfInBounds_toArray, List.set_cons_zero, List.set_cons_succ]
      refine but_take (f := 11) (i := 1) (v := ?vb1) rfl (by kernel_rfl) (by kernel_rfl) (by kernel_rfl) (by kernel_rfl) (by kernel_rfl) (fun _ _ _ h => h) (Or.inl ⟨(by rfl), ?hyb1⟩) (show w4.drew.heap[q]? = some _ from QB.out) ?restb1
      case hyb1 =>
        intro W hW
        obtain ⟨x0, x1, x2, x3, x4⟩ := box4 hW
        go_simp
        exact rfl
      simp only [List.getElem_toArray, List.getElem_cons_succ, List.getElem_cons_zero, Act.put, List.setIfInBounds_toArray, List.set_cons_zero, List.set_cons_succ]
      refine but_take (f := 11) (i := 2) (v := ?vb2) rfl (by kernel_rfl) (by kernel_rfl) (by kernel_rfl) (by kernel_rfl) (by kernel_rfl) (fun _ _ _ h => h) (Or.inl ⟨(by rfl), ?hyb2⟩) (show w4.drew.heap[q]? = some _ from QB.out) ?restb2
      case hyb2 =>
        intro W hW
        go_simp
        exact rfl
      simp only [List.getElem_toArray, List.getElem_cons_succ, List.getElem_cons_zero, Act.put, List.setIfInBounds_toArray, List.set_cons_zero, List.set_cons_succ]
      refine but_take (f := 11) (i := 5) (v := ?vb5) rfl (by kernel_rfl) (by kernel_rfl) (by kernel_rfl) (by kernel_rfl) (by kernel_rfl) (fun _ _ _ h => h) (Or.inl ⟨(by rfl), ?hyb5⟩) (show w4.drew.heap[q]? = some _ from QB.out) ?restb5
      case hyb5 =>
        intro W hW
        go_simp
        exact rfl
      simp only [List.getElem_toArray, List.getElem_cons_succ, List.getElem_cons_zero, Act.put, List.setIfInBounds_toArray, List.set_cons_zero, List.set_cons_succ]
      refine but_run (i := 3) (by kernel_rfl) rfl (by rfl) ?_
      simp only [List.getElem_toArray, List.getElem_cons_succ, List.getElem_cons_zero]
      intro K HK
      go_wp2_with fail
      have hSb1 : (fun V => V.heap[q]? = some (.cells #[.slice A0 d.secs.length c0, .slice A1 d.cache.length c1, .int .i64 d.fuse, .bool d.down] 27)) (w4.drew.alloc (.cells #[.int .i64 (-1), .int .i64 0, .int .i64 99] 3)) := box_on (show w4.drew.heap[q]? = some _ from QB.out) (bal1 _ _)
      refine HK.out _ _ (fun _ => hSb1) ?_
      clear HK
      have LI := Lib.hid (l1Int_any p w4.drew.heap.size 3 [-1, 0, 99] (w4.drew.alloc (.cells #[.int .i64 (-1), .int .i64 0, .int .i64 99] 3)) ((CC.out.keep (w' := w4.drew) (fun _ _ => rfl)).alloc _) (Lies.new w4.drew [.int .i64 (-1), .int .i64 0, .int .i64 99] 3) (by simp) (by have := CC.out.lt; show w4.heap.size ≠ p; omega) (by decide) (by decide))
      refine but_run (i := 4) (by kernel_rfl) rfl (by rfl) ?_
      simp only [List.getElem_toArray, List.getElem_cons_succ, List.getElem_cons_zero]
      intro K HK
      go_wp2_with fail
      refine (LI.out).mono ?_
      rintro r Vb2 ⟨nn, hnn, rfl, hc5, hg5⟩
      go_wp2_with fail
      have hSb2 : (fun V => V.heap[q]? = some (.cells #[.slice A0 d.secs.length c0, .slice A1 d.cache.length c1, .int .i64 d.fuse, .bool d.down] 27)) Vb2 := box_only hSb1 (only_of hg5) hqp
      refine HK.out _ _ (fun _ => hSb2) ?_
      clear HK
      have O5 : Only (fun x => x = p) w4 Vb2 := ((Only.of_below (Below.refl w4.heap.size w4).drew _).trans (Only.of_below (bal1 w4.drew (.cells #[.int .i64 (-1), .int .i64 0, .int .i64 99] 3)) _)).trans (only_of hg5)
      clear LI hnn hg5
      refine but_run (i := 6) (by kernel_rfl) rfl (by rfl) ?_
      simp only [List.getElem_toArray, List.getElem_cons_succ, List.getElem_cons_zero]
      intro K HK
      go_wp2_with fail
      refine (l1Bytes_any p 2 _ hc5 (by omega)).mono ?_
      rintro r Vb3 ⟨gb, vb, lb, rfl, ob, hlb, hgb, hc6, hg6⟩
      have HLB := Lib.hid hlb
      clear hlb
      obtain ⟨cb, rfl, hcb, _⟩ := ob.rd
      have OB := Lib.hid ob
      clear ob
      go_wp2_with fail
      have hSb3 : (fun V => V.heap[q]? = some (.cells #[.slice A0 d.secs.length c0, .slice A1 d.cache.length c1, .int .i64 d.fuse, .bool d.down] 27)) Vb3 := box_only hSb2 (only_of hg6) hqp
      refine HK.out _ _ (fun _ => hSb3) ?_
      clear HK
      have hz5 := O5.size
      have O6 := Lib.hid (O5.trans (only_of hg6))
      have HC6 := Lib.hid hc6
      have hz6 := hg6.size
      clear O5 hc5 hc6 hg6
      refine but_take (f := 11) (i := 7) (v := ?vb7) rfl (by kernel_rfl) (by kernel_rfl) (by kernel_rfl) (by kernel_rfl) (by kernel_rfl) (fun _ _ _ h => h) (Or.inl ⟨(by rfl), ?hyb7⟩) hSb3 ?restb7
      case hyb7 =>
        intro W hW
        go_simp
        exact rfl
      simp only [List.getElem_toArray, List.getElem_cons_succ, List.getElem_cons_zero, Act.put, List.setIfInBounds_toArray, List.set_cons_zero, List.set_cons_succ]
      refine but_run (i := 8) (by kernel_rfl) rfl (by rfl) ?_
      simp only [List.getElem_toArray, List.getElem_cons_succ, List.getElem_cons_zero]
      intro K HK
      go_wp2_with fail
      have hSb4 : (fun V => V.heap[q]? = some (.cells #[.slice A0 d.secs.length c0, .slice A1 d.cache.length c1, .int .i64 d.fuse, .bool d.down] 27)) (Vb3.alloc (.cells #[.int .i64 nn, .slice (some ⟨gb, 0, none⟩) lb.length cb] 78)) := box_on hSb3 (bal1 _ _)
      refine HK.out _ _ (fun _ => hSb4) ?_
      clear HK
      have O7 := Lib.hid (O6.out.trans (Only.of_below (bal1 Vb3 (.cells #[.int .i64 nn, .slice (some ⟨gb, 0, none⟩) lb.length cb] 78)) _))
      have HC7 := Lib.hid (HC6.out.alloc (.cells #[.int .i64 nn, .slice (some ⟨gb, 0, none⟩) lb.length cb] 78))
      have OB7 := Lib.hid ((OB.out.owns (S := fun b => b = gb) rfl).on (bal1 Vb3 (.cells #[.int .i64 nn, .slice (some ⟨gb, 0, none⟩) lb.length cb] 78)))
      have hbl := OB.out.lt
      have ROW7 := Lib.hid (row_keep (w' := Vb3.alloc (.cells #[.int .i64 nn, .slice (some ⟨gb, 0, none⟩) lb.length cb] 78)) ROW.out (fun g hg => O7.out.block g (row_lt ROW.out g hg).1 (fun h => by have := HP1.out g hg; omega)))
      refine but_run (i := 9) (by kernel_rfl) rfl (by rfl) ?_
      simp only [List.getElem_toArray, List.getElem_cons_succ, List.getElem_cons_zero]
      intro K HK
      refine oper_appV _ (by rfl) (.tmp 20) (.tmp 27) 25 78 2 32 (.agg #[.int .i64 0, .slice none 0 0]) (by rfl) Try.underlying25 (by kernel_rfl) rfl (by omega) (by omega) 0 d.cache.length _ xs (by rfl) ROW7.out _ 1 1 [.int .i64 nn, .slice (some ⟨gb, 0, none⟩) lb.length cb] (by rfl) rfl (At.lit2 _ _ _ _) (by simp [Value.oneCell']) (by omega) (Nat.zero_le _) ?_
      intro v8 Vb5 o8 g8 n8 at8
      obtain ⟨gv, cv, rfl⟩ := row_shape o8 (by omega)
      have hSb5 : (fun V => V.heap[q]? = some (.cells #[.slice A0 d.secs.length c0, .slice A1 d.cache.length c1, .int .i64 d.fuse, .bool d.down] 27)) Vb5 := box_grown hSb4 g8 HQ1.out
      refine HK.out _ _ (fun _ => hSb5) ?_
      clear HK
      have O8 := Lib.hid o8
      have G8 := Lib.hid g8
      have AT8 := Lib.hid at8
      clear o8 g8 n8 at8
      obtain ⟨x0, x1, x2, x3, x4⟩ := box4 hSb5
      simp only [List.getElem_toArray, List.getElem_cons_succ, List.getElem_cons_zero, Act.put, List.setIfInBounds_toArray, List.set_cons_zero, List.set_cons_succ]
      refine but_take (f := 11) (i := 10) (v := ?vb10) rfl (by kernel_rfl) (by kernel_rfl) (by kernel_rfl) (by kernel_rfl) (by kernel_rfl) (fun _ _ _ h => h) (Or.inl ⟨(by rfl), ?hyb10⟩) hSb5 ?restb10
      case hyb10 =>
        intro W hW
        go_simp
        exact rfl
      simp only [List.getElem_toArray, List.getElem_cons_succ, List.getElem_cons_zero, Act.put, List.setIfInBounds_toArray, List.set_cons_zero, List.set_cons_succ]
      refine but_run (i := 11) (by kernel_rfl) rfl (by rfl) ?_
      simp only [List.getElem_toArray, List.getElem_cons_succ, List.getElem_cons_zero]
      intro K HK
      go_wp2_with fail
      refine HK.out _ _ (fun h => absurd rfl h) ?_
      clear HK
      refine but_done (by kernel_rfl) ?_
      clear x0 x1 x2 x3 x4
      have hz8 := G8.out.size
      simp only [World.size_alloc] at hz8
      have ho8 : Only (fun b => (Value.slice A1 d.cache.length c1).ownBlock = some b) _ Vb5 := ⟨G8.out.os, G8.out.tape, G8.out.output, G8.out.size, fun i hi hn => G8.out.block i hi (fun e => hn e.symm)⟩
      have HO8 := Lib.hid ho8
      have IN : Hid (AnyIn w p q (Vb5.setCell ⟨q, 1, none⟩ (.slice (some ⟨gv, 0, none⟩) (d.cache.length + 1) cv))) := by
        have hsd := SD.out
        have OD8 := OwnDev.app2 (d := d) (n := nn) (l := lb) (T := fun x => x = p) SS0.out HS0.out HS1.out HDJ.out (fun b hb => (HS0.out b hb).2) (fun b hb => (HS1.out b hb).2) HXS.out HG1.out O7.out (fun b hb hb' => by have := hb.1.1; omega) (OB7.out.mono (fun b hb => by have h : b = gb := hb; subst h; exact ⟨by omega, by simp; omega⟩)) O8.out G8.out AT8.out rfl rfl
        refine Lib.hid ⟨{ d with cache := d.cache ++ [(nn, lb)] }, ⟨A0, c0, some ⟨gv, 0, none⟩, cv, by simpa using box_set (i := 1) (u := .slice (some ⟨gv, 0, none⟩) (d.cache.length + 1) cv) hSb5, ?_, HSq.out⟩, ⟨hsd.1, by simp; omega, hsd.2.2.1, fun pr hpr => ?_⟩, ?_, ?_, ?_⟩
        · have h := (OD8.far ((Only.refl (fun x => x = q) Vb5).setCell (j := 1) rfl (.slice (some ⟨gv, 0, none⟩) (d.cache.length + 1) cv)) (fun b hb _ hb' => hb.elim (fun h => HSq.out (hb' ▸ h.1)) (fun h => by omega))).mono (T := SDev w.heap.size q) (fun b hb => hb.elim (fun h => h.1) (fun h => ⟨by omega, by omega⟩))
          simpa using h
        · rcases List.mem_append.1 hpr with h | h
          · exact hsd.2.2.2 pr h
          · simp at h; subst h; have := HLB.out; show lb.length ≤ _; omega
        · exact (HC7.out.only HO8.out (fun x hx => by have := HP1.out x hx; omega)).only ((Only.refl (fun x => x = q) _).setCell rfl _) (fun x hx => by omega)
        · exact box_far (box_only (box_only QZ.out O7.out (by omega)) HO8.out (fun h => by have := HP1.out _ h; omega)) (by omega)
        · exact ((only_past (OO4.out.trans O7.out) HO8.out (fun x hx => by have := HP1.out x hx; omega)).setNew (by omega) _)
      clear O8 G8 AT8 HO8 ho8 hSb1 hSb2 hSb3 hSb4 hSb5 ROW ROW7 HXS HG1 SS0 HS0 HS1 HDJ HQ1 OB OB7 O6 O7 HC6 HC7 QB
      go_upto_region 16 with (fail)
      generalize Vb5.setCell ⟨q, 1, none⟩ (.slice (some ⟨gv, 0, none⟩) (d.cache.length + 1) cv) = U at *
      obtain ⟨d', pd', sd', hc', q0', o'⟩ := IN.out
      obtain ⟨A0', c0', A1', c1', hq', od', hn'⟩ := pd'
      obtain ⟨x0, x1, x2, x3, x4⟩ := box4 hq'
      obtain ⟨y0, y1, y2, y3, y4⟩ := box4 q0'
      have hz' := o'.size
      have OD' := Lib.hid od'
      have SD' := Lib.hid sd'
      have HC' := Lib.hid hc'
      have O' := Lib.hid o'
      have nq : ¬ q = w.heap.size := by omega
      have hpc := hc'.lt
      clear sd' hc' q0' o' IN hq' od' hn'
      go_wp2
      have OO : ∀ a b c d, Only (fun x => x = w.heap.size) U ((((U.setCell ⟨w.heap.size, 0, none⟩ a).setCell ⟨w.heap.size, 1, none⟩ b).setCell ⟨w.heap.size, 2, none⟩ c).setCell ⟨w.heap.size, 3, none⟩ d) := fun a b c d => ((((Only.refl (fun x => x = w.heap.size) U).setCell rfl _).setCell rfl _).setCell rfl _).setCell rfl _
      refine bodyPost_ret (v := .agg #[.slice A0' d'.secs.length c0', .slice A1' d'.cache.length c1', .int .i64 d'.fuse, .bool d'.down]) (by simp [results, Try.results56, go_sem, *]) rfl ⟨_, d', rfl, ?_, SD'.out, ?_, ?_⟩
      · exact (OD'.out.far (OO _ _ _ _) (fun b hb _ hb' => by have := hb.1; omega)).mono (fun b hb => by have := hb.1; omega)
      · exact HC'.out.only (OO _ _ _ _) (fun x hx => by omega)
      · exact ((((O'.out.setNew (Nat.le_refl _) _).setNew (Nat.le_refl _) _).setNew (Nat.le_refl _) _).setNew (Nat.le_refl _) _)
    · have e1 : ((j : Int) == 1) = false := by simp; omega
      by_cases j2 : j = 2
      · subst j2
        have REL : Hid (AnyL w p q w4) := Lib.hid ⟨d, by omega, PD.out, SD.out, CC.out, QZ.out, OO4.out⟩
        clear PD SD CC QZ OO4 hcl hsec
        go_wp2
        go_loopw [38] (fun _ wr => Hid (AnyL w p q wr)) (fun _ wr => 61 - lenAt q wr)
        case atStart => exact REL
        case round =>
          clear REL
          obtain ⟨d, hd, pd, sd, hc, q0, o⟩ := hrel.out
          have hz4 := o.size
          have PD := Lib.hid pd
          have SD := Lib.hid sd
          have CC := Lib.hid hc
          have QZ := Lib.hid q0
          have OO4 := Lib.hid o
          clear pd sd hc q0 o hrel
          obtain ⟨A0, c0, A1, c1, hq, od, hSp⟩ := PD.out
          have QBB := Lib.hid hq
          have hql : q < wr.heap.size := (Array.getElem?_eq_some_iff.1 hq).1
          clear hq od hSp
          go_upto_region 8 with (fail)
          refine but_begin (f := 6) (S := fun V => V.heap[q]? = some (.cells #[.slice A0 d.secs.length c0, .slice A1 d.cache.length c1, .int .i64 d.fuse, .bool d.down] 27)) (by kernel_rfl) ?_
          refine but_take (f := 6) (i := 0) (v := ?vc0) rfl (by kernel_rfl) (by kernel_rfl) (by kernel_rfl) (by kernel_rfl) (by kernel_rfl) (fun _ _ _ h => h) (Or.inl ⟨(by rfl), ?hyc0⟩) (show wr.drew.heap[q]? = some _ from QBB.out) ?restc0
          case hyc0 =>
            intro W hW
            go_simp
            exact rfl
          simp only [List.getElem_toArray, List.getElem_cons_succ, List.getElem_cons_zero, Act.put, List.setIfInBounds_toArray, List.set_cons_zero, List.set_cons_succ]
          refine but_take (f := 6) (i := 1) (v := ?vc1) rfl (by kernel_rfl) (by kernel_rfl) (by kernel_rfl) (by kernel_rfl) (by kernel_rfl) (fun _ _ _ h => h) (Or.inl ⟨(by rfl), ?hyc1⟩) (show wr.drew.heap[q]? = some _ from QBB.out) ?restc1
          case hyc1 =>
            intro W hW
            obtain ⟨x0, x1, x2, x3, x4⟩ := box4 hW
            go_simp
            exact rfl
          simp only [List.getElem_toArray, List.getElem_cons_succ, List.getElem_cons_zero, Act.put, List.setIfInBounds_toArray, List.set_cons_zero, List.set_cons_succ]
          refine but_take (f := 6) (i := 2) (v := ?vc2) rfl (by kernel_rfl) (by kernel_rfl) (by kernel_rfl) (by kernel_rfl) (by kernel_rfl) (fun _ _ _ h => h) (Or.inl ⟨(by rfl), ?hyc2⟩) (show wr.drew.heap[q]? = some _ from QBB.out) ?restc2
          case hyc2 =>
            intro W hW
            go_simp
            exact rfl
          simp only [List.getElem_toArray, List.getElem_cons_succ, List.getElem_cons_zero, Act.put, List.setIfInBounds_toArray, List.set_cons_zero, List.set_cons_succ]
          refine but_take (f := 6) (i := 3) (v := ?vc3) rfl (by kernel_rfl) (by kernel_rfl) (by kernel_rfl) (by kernel_rfl) (by kernel_rfl) (fun _ _ _ h => h) (Or.inl ⟨(by rfl), ?hyc3⟩) (show wr.drew.heap[q]? = some _ from QBB.out) ?restc3
          case hyc3 =>
            intro W hW
            go_simp
            exact rfl
          simp only [List.getElem_toArray, List.getElem_cons_succ, List.getElem_cons_zero, Act.put, List.setIfInBounds_toArray, List.set_cons_zero, List.set_cons_succ]
          refine but_run (i := 4) (by kernel_rfl) rfl (by rfl) ?_
          simp only [List.getElem_toArray, List.getElem_cons_succ, List.getElem_cons_zero]
          intro K HK
          go_wp2_with fail
          refine (l1Below_any p 3 _ (CC.out.keep (w' := wr.drew) (fun _ _ => rfl)) (by omega) (by omega)).mono ?_
          rintro r Vc1 ⟨r3, hr3, rfl, hc5, hg5⟩
          go_wp2_with fail
          have hSc1 : (fun V => V.heap[q]? = some (.cells #[.slice A0 d.secs.length c0, .slice A1 d.cache.length c1, .int .i64 d.fuse, .bool d.down] 27)) Vc1 := box_only (show wr.drew.heap[q]? = some _ from QBB.out) (only_of hg5) hqp
          refine HK.out _ _ (fun _ => hSc1) ?_
          clear HK
          have O5 := (Only.of_below (Below.refl wr.heap.size wr).drew (fun x => x = p)).trans (only_of hg5)
          have PD5 := Lib.hid (PD.out.only O5 (fun h => by have := h.1; omega) hqp)
          have QZ5 := Lib.hid (box_only QZ.out O5 (by omega))
          have OO5 := Lib.hid (OO4.out.trans O5)
          have CC5 := Lib.hid hc5
          have hz5 := O5.size
          have hz5' := OO5.out.size
          have i5 : IntKind.i64.wrap (59 + (r3 : Int)) = 59 + (r3 : Int) := by rw [IntKind.wrap_i64]; omega
          have hr4 : r3 < 3 := by omega
          clear hc5 hg5 O5 PD QZ OO4 CC
          refine but_take (f := 6) (i := 5) (v := ?vc5) rfl (by kernel_rfl) (by kernel_rfl) (by kernel_rfl) (by kernel_rfl) (by kernel_rfl) (fun _ _ _ h => h) (Or.inl ⟨(by rfl), ?hyc5⟩) hSc1 ?restc5
          case hyc5 =>
            intro W hW
            go_simp
            exact rfl
          simp only [List.getElem_toArray, List.getElem_cons_succ, List.getElem_cons_zero, Act.put, List.setIfInBounds_toArray, List.set_cons_zero, List.set_cons_succ]
          refine but_run (i := 6) (by kernel_rfl) rfl (by rfl) ?_
          simp only [List.getElem_toArray, List.getElem_cons_succ, List.getElem_cons_zero]
          intro K HK
          go_wp2_with fail
          refine HK.out _ _ (fun h => absurd rfl h) ?_
          clear HK
          refine but_done (by kernel_rfl) ?_
          clear hSc1
          obtain ⟨B0, e0, B1, e1, hq, od, hSp⟩ := PD5.out
          obtain ⟨u0, u1, he, ol⟩ := od.lt
          simp at he
          obtain ⟨rfl, rfl⟩ := he
          obtain ⟨S0, S1, s0, s1, hS0, hS1, hdj⟩ := ol.pair
          obtain ⟨xs, hrow, hxs, hg1⟩ := s1.rowL 0 (fun b hb => Nat.zero_le _)
          have QB := Lib.hid hq
          have ROW := Lib.hid hrow
          have HXS := Lib.hid hxs
          have HG1 := Lib.hid hg1
          have SS0 := Lib.hid s0
          have HS0 := Lib.hid hS0
          have HS1 := Lib.hid hS1
          have HDJ := Lib.hid hdj
          have HSq := Lib.hid hSp
          have HQ1 : Hid ((Value.slice B1 d.cache.length e1).ownBlock ≠ some q) := Lib.hid (fun h => hSp (hS1 _ (hg1 _ h)).1)
          have HP1 : Hid (∀ b, (Value.slice B1 d.cache.length e1).ownBlock = some b → w.heap.size < b) := Lib.hid (fun b h => (hS1 _ (hg1 _ h)).1.1)
          clear hq od ol s0 s1 hS0 hS1 hdj hrow hxs hg1
          by_cases hlt : d.cache.length < 59 + r3
          · have dl : decide ((d.cache.length : Int) < 59 + (r3 : Int)) = true := decide_eq_true (by omega)
            obtain ⟨x0, x1, x2, x3, x4⟩ := box4 QB.out
            have ROW7 := Lib.hid (row_on ROW.out (bal1 Vc1 (.cells #[.int .i64 0, .slice none 0 0] 78)))
            have Q7 := Lib.hid (box_on QB.out (bal1 Vc1 (.cells #[.int .i64 0, .slice none 0 0] 78)))
            go_wp2_with (at_builtin; refine wpList_appV _ rfl (.tmp 40) (.tmp 42) 25 78 2 32 (.agg #[.int .i64 0, .slice none 0 0]) rfl Try.underlying25 (by kernel_rfl) rfl (by omega) (by omega) 0 d.cache.length _ xs rfl ROW7.out (some ⟨Vc1.heap.size, 0, none⟩) 1 1 [.int .i64 0, .slice none 0 0] rfl rfl (At.lit2 _ _ _ _) (by simp [Value.oneCell']) (by omega) (Nat.zero_le _) ?_; intro v8 w8 o8 g8 n8 at8; obtain ⟨gv, cv, rfl⟩ := row_shape o8 (by omega); have H8 := Lib.hid (box_grown Q7.out g8 HQ1.out); obtain ⟨z0, z1, z2, z3, z4⟩ := box4 H8.out; have O8 := Lib.hid o8; have G8 := Lib.hid g8; have AT8 := Lib.hid at8; clear o8 g8 n8 at8)
            have hz8 := G8.out.size
            simp only [World.size_alloc] at hz8
            have ho8 : Only (fun b => (Value.slice B1 d.cache.length e1).ownBlock = some b) (Vc1.alloc (.cells #[.int .i64 0, .slice none 0 0] 78)) w8 := ⟨G8.out.os, G8.out.tape, G8.out.output, G8.out.size, fun i hi hn => G8.out.block i hi (fun e => hn e.symm)⟩
            have IN : Hid (AnyL w p q (w8.setCell ⟨q, 1, none⟩ (.slice (some ⟨gv, 0, none⟩) (d.cache.length + 1) cv))) := by
              have hsd := SD.out
              have OD8 := OwnDev.app (d := d) (n := 0) (l := []) SS0.out HS0.out HS1.out HDJ.out (fun b hb => (HS0.out b hb).2) (fun b hb => (HS1.out b hb).2) HXS.out HG1.out (bal1 _ _) (Owns.nil _ _ _) O8.out G8.out AT8.out rfl rfl
              refine Lib.hid ⟨{ d with cache := d.cache ++ [(0, [])] }, by simp; omega, ⟨B0, e0, some ⟨gv, 0, none⟩, cv, by simpa using box_set (i := 1) (u := .slice (some ⟨gv, 0, none⟩) (d.cache.length + 1) cv) H8.out, ?_, HSq.out⟩, ⟨hsd.1, by simp; omega, hsd.2.2.1, fun pr hpr => ?_⟩, ?_, ?_, ?_⟩
              · have h := (OD8.far ((Only.refl (fun x => x = q) w8).setCell (j := 1) rfl (.slice (some ⟨gv, 0, none⟩) (d.cache.length + 1) cv)) (fun b hb _ hb' => hb.elim (fun h => HSq.out (hb' ▸ h.1)) (fun h => by omega))).mono (T := SDev w.heap.size q) (fun b hb => hb.elim (fun h => h.1) (fun h => ⟨by omega, by omega⟩))
                simpa using h
              · rcases List.mem_append.1 hpr with h | h
                · exact hsd.2.2.2 pr h
                · simp at h; subst h; simp
              · exact ((CC5.out.alloc _).only ho8 (fun x hx => by have := HP1.out x hx; omega)).only ((Only.refl (fun x => x = q) _).setCell rfl _) (fun x hx => by omega)
              · exact box_far (box_only (box_on QZ5.out (bal1 _ _)) ho8 (fun h => by have := HP1.out _ h; omega)) (by omega)
              · exact ((only_past (OO5.out.trans (Only.of_below (bal1 _ _) _)) ho8 (fun x hx => by have := HP1.out x hx; omega)).setNew (by omega) _)
            have M1 : Hid (lenAt q (w8.setCell ⟨q, 1, none⟩ (.slice (some ⟨gv, 0, none⟩) (d.cache.length + 1) cv)) = d.cache.length + 1) := Lib.hid (lenAt_box (box_set (i := 1) (u := .slice (some ⟨gv, 0, none⟩) (d.cache.length + 1) cv) H8.out))
            have M0 : Hid (lenAt q wr = d.cache.length) := Lib.hid (lenAt_box QBB.out)
            clear O8 G8 AT8 ho8 ROW ROW7 HXS HG1 SS0 HS0 HS1 HDJ HQ1 QB Q7 H8
            go_roundw
            case rel => exact IN
            case measure => rw [M1.out, M0.out]; omega
          · have dl : decide ((d.cache.length : Int) < 59 + (r3 : Int)) = false := decide_eq_false (by omega)
            have IN : Hid (AnyIn w p q Vc1) := Lib.hid ⟨d, PD5.out, SD.out, CC5.out, QZ5.out, OO5.out⟩
            clear ROW HXS HG1 SS0 HS0 HS1 HDJ HQ1 QB QBB PD5 QZ5 OO5 CC5
            go_upto_region 16 with (fail)
            generalize Vc1 = U at *
            obtain ⟨d', pd', sd', hc', q0', o'⟩ := IN.out
            obtain ⟨A0', c0', A1', c1', hq', od', hn'⟩ := pd'
            obtain ⟨x0, x1, x2, x3, x4⟩ := box4 hq'
            obtain ⟨y0, y1, y2, y3, y4⟩ := box4 q0'
            have hz' := o'.size
            have OD' := Lib.hid od'
            have SD' := Lib.hid sd'
            have HC' := Lib.hid hc'
            have O' := Lib.hid o'
            have nq : ¬ q = w.heap.size := by omega
            have hpc := hc'.lt
            clear sd' hc' q0' o' IN hq' od' hn'
            go_wp2
            have OO : ∀ a b c d, Only (fun x => x = w.heap.size) U ((((U.setCell ⟨w.heap.size, 0, none⟩ a).setCell ⟨w.heap.size, 1, none⟩ b).setCell ⟨w.heap.size, 2, none⟩ c).setCell ⟨w.heap.size, 3, none⟩ d) := fun a b c d => ((((Only.refl (fun x => x = w.heap.size) U).setCell rfl _).setCell rfl _).setCell rfl _).setCell rfl _
            refine bodyPost_ret (v := .agg #[.slice A0' d'.secs.length c0', .slice A1' d'.cache.length c1', .int .i64 d'.fuse, .bool d'.down]) (by simp [results, Try.results56, go_sem, *]) rfl ⟨_, d', rfl, ?_, SD'.out, ?_, ?_⟩
            · exact (OD'.out.far (OO _ _ _ _) (fun b hb _ hb' => by have := hb.1; omega)).mono (fun b hb => by have := hb.1; omega)
            · exact HC'.out.only (OO _ _ _ _) (fun x hx => by omega)
            · exact ((((O'.out.setNew (Nat.le_refl _) _).setNew (Nat.le_refl _) _).setNew (Nat.le_refl _) _).setNew (Nat.le_refl _) _)
      · have e2 : ((j : Int) == 2) = false := by simp; omega
        by_cases j3 : j = 3
        · subst j3
          have H := Lib.hid (l1Int_any p w4.heap.size 5 fuseList (w4.alloc (.cells (fuseList.map (.int .i64 ·)).toArray 3)) (CC.out.alloc _) (Lies.new w4 _ _) (by simp) (by omega) (by decide) (by decide))
          have B1 := Lib.hid (Only.of_below (bal1 w4 (.cells (fuseList.map (.int .i64 ·)).toArray 3)) (fun x => x = p))
          go_wp2_with fail
          refine H.out.mono ?_
          rintro r w5 ⟨x, hx, rfl, c5, g5⟩
          have O5 := B1.out.trans (only_of g5)
          have PD5 := Lib.hid (PD.out.only O5 (fun h => by have := h.1; omega) hqp)
          have QZ5 := Lib.hid (box_only QZ.out O5 (by omega))
          have OO5 := Lib.hid (OO4.out.trans O5)
          have CC5 := Lib.hid c5
          clear H B1 hx c5 g5 O5 PD QZ OO4 CC
          obtain ⟨A0, c0, A1, c1, hq, od, hSp⟩ := PD5.out
          obtain ⟨x0, x1, x2, x3, x4⟩ := box4 hq
          clear hq od
          have IN : Hid (AnyIn w p q (w5.setCell ⟨q, 2, none⟩ (.int .i64 x))) := Lib.hid ⟨{ d with fuse := x }, PD5.out.fuse x, SD.out, CC5.out.only ((Only.refl (fun x => x = q) w5).setCell rfl _) (fun x hx => by omega), box_far QZ5.out (by omega), OO5.out.setNew (by omega) _⟩
          clear PD5 QZ5 OO5
          go_upto_region 16 with (fail)
          generalize w5.setCell ⟨q, 2, none⟩ (.int .i64 x) = U at *
          obtain ⟨d', pd', sd', hc', q0', o'⟩ := IN.out
          obtain ⟨A0', c0', A1', c1', hq', od', hn'⟩ := pd'
          obtain ⟨x0, x1, x2, x3, x4⟩ := box4 hq'
          obtain ⟨y0, y1, y2, y3, y4⟩ := box4 q0'
          have hz' := o'.size
          have OD' := Lib.hid od'
          have SD' := Lib.hid sd'
          have HC' := Lib.hid hc'
          have O' := Lib.hid o'
          have nq : ¬ q = w.heap.size := by omega
          have hpc := hc'.lt
          clear sd' hc' q0' o' IN hq' od' hn'
          go_wp2
          have OO : ∀ a b c d, Only (fun x => x = w.heap.size) U ((((U.setCell ⟨w.heap.size, 0, none⟩ a).setCell ⟨w.heap.size, 1, none⟩ b).setCell ⟨w.heap.size, 2, none⟩ c).setCell ⟨w.heap.size, 3, none⟩ d) := fun a b c d => ((((Only.refl (fun x => x = w.heap.size) U).setCell rfl _).setCell rfl _).setCell rfl _).setCell rfl _
          refine bodyPost_ret (v := .agg #[.slice A0' d'.secs.length c0', .slice A1' d'.cache.length c1', .int .i64 d'.fuse, .bool d'.down]) (by simp [results, Try.results56, go_sem, *]) rfl ⟨_, d', rfl, ?_, SD'.out, ?_, ?_⟩
          · exact (OD'.out.far (OO _ _ _ _) (fun b hb _ hb' => by have := hb.1; omega)).mono (fun b hb => by have := hb.1; omega)
          · exact HC'.out.only (OO _ _ _ _) (fun x hx => by omega)
          · exact ((((O'.out.setNew (Nat.le_refl _) _).setNew (Nat.le_refl _) _).setNew (Nat.le_refl _) _).setNew (Nat.le_refl _) _)
        · have e3 : ((j : Int) == 3) = false := by simp; omega
          by_cases j4 : j = 4
          · subst j4
            obtain ⟨A0, c0, A1, c1, hq, od, hSp⟩ := PD.out
            obtain ⟨x0, x1, x2, x3, x4⟩ := box4 hq
            have QB := Lib.hid hq
            have OD := Lib.hid od
            clear hq od
            have IN : Hid (AnyIn w p q (w4.setCell ⟨q, 3, none⟩ (.bool true))) := Lib.hid ⟨{ d with down := true }, PD.out.dn true, SD.out, CC.out.only ((Only.refl (fun x => x = q) w4).setCell rfl _) (fun x hx => by omega), box_far QZ.out (by omega), OO4.out.setNew (by omega) _⟩
            clear QB OD PD QZ OO4
            go_upto_region 16 with (fail)
            generalize w4.setCell ⟨q, 3, none⟩ (.bool true) = U at *
            obtain ⟨d', pd', sd', hc', q0', o'⟩ := IN.out
            obtain ⟨A0', c0', A1', c1', hq', od', hn'⟩ := pd'
            obtain ⟨x0, x1, x2, x3, x4⟩ := box4 hq'
            obtain ⟨y0, y1, y2, y3, y4⟩ := box4 q0'
            have hz' := o'.size
            have OD' := Lib.hid od'
            have SD' := Lib.hid sd'
            have HC' := Lib.hid hc'
            have O' := Lib.hid o'
            have nq : ¬ q = w.heap.size := by omega
            have hpc := hc'.lt
            clear sd' hc' q0' o' IN hq' od' hn'
            go_wp2
            have OO : ∀ a b c d, Only (fun x => x = w.heap.size) U ((((U.setCell ⟨w.heap.size, 0, none⟩ a).setCell ⟨w.heap.size, 1, none⟩ b).setCell ⟨w.heap.size, 2, none⟩ c).setCell ⟨w.heap.size, 3, none⟩ d) := fun a b c d => ((((Only.refl (fun x => x = w.heap.size) U).setCell rfl _).setCell rfl _).setCell rfl _).setCell rfl _
            refine bodyPost_ret (v := .agg #[.slice A0' d'.secs.length c0', .slice A1' d'.cache.length c1', .int .i64 d'.fuse, .bool d'.down]) (by simp [results, Try.results56, go_sem, *]) rfl ⟨_, d', rfl, ?_, SD'.out, ?_, ?_⟩
            · exact (OD'.out.far (OO _ _ _ _) (fun b hb _ hb' => by have := hb.1; omega)).mono (fun b hb => by have := hb.1; omega)
            · exact HC'.out.only (OO _ _ _ _) (fun x hx => by omega)
            · exact ((((O'.out.setNew (Nat.le_refl _) _).setNew (Nat.le_refl _) _).setNew (Nat.le_refl _) _).setNew (Nat.le_refl _) _)
          · have e4 : ((j : Int) == 4) = false := by simp; omega
            by_cases j5 : j = 5
            · subst j5
              obtain ⟨A0, c0, A1, c1, hq, od, hSp⟩ := PD.out
              obtain ⟨x0, x1, x2, x3, x4⟩ := box4 hq
              have QB := Lib.hid hq
              have OD := Lib.hid od
              clear hq od
              have IN : Hid (AnyIn w p q (w4.setCell ⟨q, 2, none⟩ (.int .i64 0))) := Lib.hid ⟨{ d with fuse := 0 }, PD.out.fuse 0, SD.out, CC.out.only ((Only.refl (fun x => x = q) w4).setCell rfl _) (fun x hx => by omega), box_far QZ.out (by omega), OO4.out.setNew (by omega) _⟩
              clear QB OD PD QZ OO4
              go_upto_region 16 with (fail)
              generalize w4.setCell ⟨q, 2, none⟩ (.int .i64 0) = U at *
              obtain ⟨d', pd', sd', hc', q0', o'⟩ := IN.out
              obtain ⟨A0', c0', A1', c1', hq', od', hn'⟩ := pd'
              obtain ⟨x0, x1, x2, x3, x4⟩ := box4 hq'
              obtain ⟨y0, y1, y2, y3, y4⟩ := box4 q0'
              have hz' := o'.size
              have OD' := Lib.hid od'
              have SD' := Lib.hid sd'
              have HC' := Lib.hid hc'
              have O' := Lib.hid o'
              have nq : ¬ q = w.heap.size := by omega
              have hpc := hc'.lt
              clear sd' hc' q0' o' IN hq' od' hn'
              go_wp2
              have OO : ∀ a b c d, Only (fun x => x = w.heap.size) U ((((U.setCell ⟨w.heap.size, 0, none⟩ a).setCell ⟨w.heap.size, 1, none⟩ b).setCell ⟨w.heap.size, 2, none⟩ c).setCell ⟨w.heap.size, 3, none⟩ d) := fun a b c d => ((((Only.refl (fun x => x = w.heap.size) U).setCell rfl _).setCell rfl _).setCell rfl _).setCell rfl _
              refine bodyPost_ret (v := .agg #[.slice A0' d'.secs.length c0', .slice A1' d'.cache.length c1', .int .i64 d'.fuse, .bool d'.down]) (by simp [results, Try.results56, go_sem, *]) rfl ⟨_, d', rfl, ?_, SD'.out, ?_, ?_⟩
              · exact (OD'.out.far (OO _ _ _ _) (fun b hb _ hb' => by have := hb.1; omega)).mono (fun b hb => by have := hb.1; omega)
              · exact HC'.out.only (OO _ _ _ _) (fun x hx => by omega)
              · exact ((((O'.out.setNew (Nat.le_refl _) _).setNew (Nat.le_refl _) _).setNew (Nat.le_refl _) _).setNew (Nat.le_refl _) _)
            · have e5 : ((j : Int) == 5) = false := by simp; omega
              have IN : Hid (AnyIn w p q w4) := Lib.hid ⟨d, PD.out, SD.out, CC.out, QZ.out, OO4.out⟩
              clear PD QZ OO4 CC
              go_upto_region 16 with (fail)
              generalize w4 = U at *
              obtain ⟨d', pd', sd', hc', q0', o'⟩ := IN.out
              obtain ⟨A0', c0', A1', c1', hq', od', hn'⟩ := pd'
              obtain ⟨x0, x1, x2, x3, x4⟩ := box4 hq'
              obtain ⟨y0, y1, y2, y3, y4⟩ := box4 q0'
              have hz' := o'.size
              have OD' := Lib.hid od'
              have SD' := Lib.hid sd'
              have HC' := Lib.hid hc'
              have O' := Lib.hid o'
              have nq : ¬ q = w.heap.size := by omega
              have hpc := hc'.lt
              clear sd' hc' q0' o' IN hq' od' hn'
              go_wp2
              have OO : ∀ a b c d, Only (fun x => x = w.heap.size) U ((((U.setCell ⟨w.heap.size, 0, none⟩ a).setCell ⟨w.heap.size, 1, none⟩ b).setCell ⟨w.heap.size, 2, none⟩ c).setCell ⟨w.heap.size, 3, none⟩ d) := fun a b c d => ((((Only.refl (fun x => x = w.heap.size) U).setCell rfl _).setCell rfl _).setCell rfl _).setCell rfl _
              refine bodyPost_ret (v := .agg #[.slice A0' d'.secs.length c0', .slice A1' d'.cache.length c1', .int .i64 d'.fuse, .bool d'.down]) (by simp [results, Try.results56, go_sem, *]) rfl ⟨_, d', rfl, ?_, SD'.out, ?_, ?_⟩
              · exact (OD'.out.far (OO _ _ _ _) (fun b hb _ hb' => by have := hb.1; omega)).mono (fun b hb => by have := hb.1; omega)
              · exact HC'.out.only (OO _ _ _ _) (fun x hx => by omega)
              · exact ((((O'.out.setNew (Nat.le_refl _) _).setNew (Nat.le_refl _) _).setNew (Nat.le_refl _) _).setNew (Nat.le_refl _) _)
end Go.Proofs.Ytmeiobpeacdfjaa
