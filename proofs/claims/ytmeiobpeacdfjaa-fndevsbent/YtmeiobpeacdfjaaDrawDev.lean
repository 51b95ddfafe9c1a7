/- Contracts of spec.l2Draw and spec.DrawDev: a valid device of 2 to 7 sectors, not down, whose power does not fail, with at most 7 cached writes. Conditions: the code has at most 2^20 bytes. -/
import Derived.Test.YtmeiobpeacdfjaaDrawB
import Derived.Test.YtmeiobpeacdfjaaDevPtr2
namespace Go.Proofs.Ytmeiobpeacdfjaa
open Go.RowKit
set_option maxRecDepth 100000
set_option linter.unusedSimpArgs false
set_option linter.unusedVariables false

def DrawnD (m : Nat) (d : DevD) : Prop := okD d = true ∧ d.fuse = -1 ∧ d.down = false ∧ 2 ≤ d.secs.length ∧ d.secs.length ≤ 7 ∧ d.cache.length ≤ m
theorem appK_all {P : List UInt8 → Prop} (keep : Nat → Bool) (ls : List (List UInt8)) (ps : List (Int × List UInt8)) (h1 : ∀ l ∈ ls, P l) (h2 : ∀ p ∈ ps, P p.2) (i : Nat) : ∀ l ∈ appK keep ls ps i, P l := by
  induction i with
  | zero => exact h1
  | succ i ih =>
    simp only [appK]
    split
    · rename_i p hp
      split
      · intro l hl
        rcases List.mem_or_eq_of_mem_set hl with h | h
        · exact ih l h
        · subst h; exact h2 p (List.mem_of_getElem? hp)
      · exact ih
    · exact ih
theorem drawn_small {m : Nat} {d : DevD} (h : okD d = true) : SmallD d := by
  have k := (okD_iff d).1 h
  exact ⟨by omega, by omega, fun l hl => Nat.le_trans (k.2.2.2.1 l hl) (by omega), fun p hp => Nat.le_trans (k.2.2.2.2.1 p hp).2.2 (by omega)⟩
theorem drawn_write {m : Nat} {d : DevD} {n : Int} {l : List UInt8} (h : DrawnD m d) (hm : m ≤ 50) : DrawnD (m + 1) (writeD d n l) := by
  obtain ⟨hok, hf, hd, h1, h2, h3⟩ := h
  by_cases hc : canW d n l
  · rw [writeD_yes hc (by rw [hf]; decide)]
    have k := (okD_iff d).1 hok
    have e1 : spendF d.fuse = -1 := by rw [hf]; rfl
    have e2 : downF d.fuse d.down = false := by rw [hf, hd]; rfl
    refine ⟨(okD_iff _).2 ⟨k.1, k.2.1, by simp; omega, k.2.2.2.1, fun p hp => ?_, by simp [spend, e1], by simp [spend, e1]⟩, by simp [spend, e1], by simp [spend, e2], h1, h2, by simp; omega⟩
    rcases List.mem_append.1 hp with hp | hp
    · exact k.2.2.2.2.1 p hp
    · simp at hp; subst hp; exact ⟨hc.2.2.1.1, hc.2.2.1.2, hc.2.2.2.1⟩
  · rw [writeD_no hc]; exact ⟨hok, hf, hd, h1, h2, by omega⟩
theorem drawn_flush {m : Nat} {d : DevD} (h : DrawnD m d) : DrawnD m (flushD d) := by
  obtain ⟨hok, hf, hd, h1, h2, h3⟩ := h
  rw [flushD_yes ⟨hok, hd⟩ (by rw [hf]; decide)]
  have k := (okD_iff d).1 hok
  have e1 : spendF d.fuse = -1 := by rw [hf]; rfl
  have hl := appK_length all_ d.secs d.cache d.cache.length
  refine ⟨(okD_iff _).2 ⟨by rw [hl]; exact k.1, by rw [hl]; exact k.2.1, by simp, appK_all all_ _ _ k.2.2.2.1 (fun p hp => (k.2.2.2.2.1 p hp).2.2) _, by simp, by simp [e1], by simp [e1]⟩, e1, rfl, by rw [hl]; exact h1, by rw [hl]; exact h2, by simp⟩
theorem drawn_new {n : Int} (h1 : 2 ≤ n) (h2 : n ≤ 7) : DrawnD 0 (newD n) := by
  rw [newD_yes ⟨by omega, by omega⟩]
  refine ⟨(okD_iff _).2 ⟨by simp; omega, by simp; omega, by simp, fun l hl => ?_, by simp, by simp, by simp⟩, rfl, rfl, by simp; omega, by simp; omega, by simp⟩
  have := List.eq_of_mem_replicate hl; subst this; simp
theorem DrawnD.mono {m m' : Nat} {d : DevD} (h : DrawnD m d) (hm : m ≤ m') : DrawnD m' d := ⟨h.1, h.2.1, h.2.2.1, h.2.2.2.1, h.2.2.2.2.1, by have := h.2.2.2.2.2; omega⟩
theorem Cur.only {w w' : World} {p : Nat} {T : Nat → Prop} (h : Cur w p) (hO : Only T w w') (hT : ∀ x, T x → p < x) : Cur w' p := h.keep (fun k hk => hO.block k (by have := h.lt; omega) (fun hx => by have := hT k hx; omega))
theorem only_of {w w' : World} {p : Nat} (h : w.grownBy w' (some p)) : Only (fun x => x = p) w w' := Only.of_grown h rfl
def ADev (w : World) (p : Nat) (e : Ending) (w' : World) : Prop := ∃ v d, e = .returned v ∧ OwnDev w' (fun x => w.heap.size ≤ x) v d ∧ DrawnD 7 d ∧ Cur w' p ∧ Only (fun x => x = p) w w'
/-- The blocks of the drawn device. -/
def SDev (b q : Nat) : Nat → Prop := fun x => b < x ∧ x ≠ q
def DrawIn (w : World) (p q k : Nat) (wr : World) : Prop := ∃ d, PDev wr q (SDev w.heap.size q) d ∧ DrawnD (7 - k) d ∧ Cur wr p ∧ wr.heap[w.heap.size]? = some (.cells #[.slice none 0 0, .slice none 0 0, .int .i64 0, .bool false] 27) ∧ Only (fun x => x = p) w wr
theorem PDev.only {w w' : World} {p q : Nat} {S : Nat → Prop} {d : DevD} (h : PDev w q S d) (hO : Only (fun x => x = p) w w') (hS : ¬ S p) (hq : q ≠ p) : PDev w' q S d := by
  obtain ⟨A0, c0, A1, c1, hq0, od, hn⟩ := h
  exact ⟨A0, c0, A1, c1, box_only hq0 hO hq, od.far hO (fun b hb _ hb' => hS (hb' ▸ hb)), hn⟩
set_option maxHeartbeats 2000000 in
theorem l2Draw_any (p : Nat) (w : World) (hc : Cur w p) : Calls Try.prog 86 #[.pointer (some ⟨p, 0, none⟩)] w (ADev w p) := by
  have hp := hc.lt
  have q0 := al1 w (.cells #[.slice none 0 0, .slice none 0 0, .int .i64 0, .bool false] 27)
  have hc0 := hc.alloc (.cells #[.slice none 0 0, .slice none 0 0, .int .i64 0, .bool false] 27)
  have HB0 := Lib.hid (Only.of_below (bal1 w (.cells #[.slice none 0 0, .slice none 0 0, .int .i64 0, .bool false] 27)) (fun x => x = p))
  clear hc
  go_enter Try.func86, Try.ntmps86
  go_wp2_with fail
  refine (l1Below_any p 6 _ hc0 (by omega) (by omega)).mono ?_
  rintro e w1 ⟨j, hj, rfl, hc1, hg1⟩
  have q1 := box_only q0 (only_of hg1) (by omega)
  have O1 := Lib.hid (HB0.out.trans (only_of hg1))
  have hz1 := hg1.size
  simp only [World.size_alloc] at hz1
  clear q0 hc0 hg1 HB0
  have hj2 : j < 6 := by omega
  go_wp2_with fail
  refine (specDevNew_any _ _).mono ?_
  rintro e w2 ⟨v, rfl, o2, b2⟩
  obtain ⟨A0, c0, A1, c1, rfl⟩ := o2.rd.shape
  have D2 := Lib.hid (drawn_new (n := 2 + (j : Int)) (by omega) (by omega))
  generalize newD (2 + (j : Int)) = d at *
  have hz2 := b2.size
  have bb := bstep b2 (bal1 w2 (.cells #[.slice A0 d.secs.length c0, .slice A1 d.cache.length c1, .int .i64 d.fuse, .bool d.down] 27))
  have P2 : Hid (PDev (w2.alloc (.cells #[.slice A0 d.secs.length c0, .slice A1 d.cache.length c1, .int .i64 d.fuse, .bool d.down] 27)) w2.heap.size (SDev w.heap.size w2.heap.size) d) :=
    Lib.hid ⟨A0, c0, A1, c1, al1 _ _, (o2.lt.on (bal1 _ _)).mono (fun b hb => ⟨by have := hb.1; omega, by have := hb.2; omega⟩), fun h => h.2 rfl⟩
  have hc2 := hc1.on bb
  have Q2 := Lib.hid (box_on q1 bb)
  have O2 := Lib.hid (O1.out.trans (Only.of_below bb _))
  have hqp : w2.heap.size ≠ p := by have := hc1.lt; omega
  clear q1 O1 o2 b2 bb hc1
  go_wp2_with fail
  refine (l1Below_any p 8 _ hc2 (by omega) (by omega)).mono ?_
  rintro e w3 ⟨m, hm, rfl, hc3, hg3⟩
  have hz3 := hg3.size
  simp only [World.size_alloc] at hz3
  have REL : Hid (DrawIn w p w2.heap.size m w3) := Lib.hid ⟨d, P2.out.only (only_of hg3) (fun h => by have := h.1; omega) hqp, D2.out.mono (by omega), hc3, box_only Q2.out (only_of hg3) (by omega), O2.out.trans (only_of hg3)⟩
  have hqz : w.heap.size < w2.heap.size := by omega
  clear P2 D2 hc2 hc3 hg3 Q2 O2
  generalize w2.heap.size = q at *
  go_wp2
  go_loopw [4] (fun i wr => ∃ k : Nat, k ≤ 7 ∧ i = .int .i64 k ∧ Hid (DrawIn w p q k wr)) (fun i _ => (intOf i).toNat)
  case atStart => exact ⟨m, by omega, rfl, REL⟩
  case round =>
    clear REL hz1 hz2 hz3
    obtain ⟨k, hk, rfl, HC⟩ := hrel
    obtain ⟨d, pd, dd, hc4, q4, o4⟩ := HC.out
    by_cases hlt : 0 < k
    · have PD := Lib.hid pd
      have DD := Lib.hid dd
      have Q4 := Lib.hid q4
      have O4 := Lib.hid o4
      have hz4 := o4.size
      have hsec := dd.2.2.2
      have hok := Lib.hid dd.1
      have hql : q < wr.heap.size := by obtain ⟨_, _, _, _, h, _⟩ := pd; exact (Array.getElem?_eq_some_iff.1 h).1
      clear pd dd q4 o4 HC
      go_wp2_with fail
      refine (l1Once_any p 4 _ hc4 (by omega) (by omega)).mono ?_
      rintro e w5 ⟨bb, rfl, hc5, hg5⟩
      have pd5 := PD.out.only (only_of hg5) (fun h => by have := h.1; omega) hqp
      have Q5 := Lib.hid (box_only Q4.out (only_of hg5) (by omega))
      have O5 := Lib.hid (O4.out.trans (only_of hg5))
      have hz5 := hg5.size
      clear PD Q4 O4 hc4 hg5
      cases bb
      · obtain ⟨A0, c0, A1, c1, hq5, od5, hn5⟩ := pd5
        obtain ⟨x0, x1, x2, x3, x4⟩ := box4 hq5
        have PD5 : Hid (PDev w5 q (SDev w.heap.size q) d) := Lib.hid ⟨A0, c0, A1, c1, hq5, od5, hn5⟩
        clear hq5 od5 hn5
        go_wp2_with fail
        refine (l1Below_any p d.secs.length _ hc5 (by omega) (by omega)).mono ?_
        rintro e w6 ⟨n, hn, rfl, hc6, hg6⟩
        have pd6 := Lib.hid (PD5.out.only (only_of hg6) (fun h => by have := h.1; omega) hqp)
        have Q6 := Lib.hid (box_only Q5.out (only_of hg6) (by omega))
        have O6 := Lib.hid (O5.out.trans (only_of hg6))
        have hz6 := hg6.size
        clear PD5 Q5 O5 hc5 hg6 x0 x1 x2 x3 x4
        go_wp2_with fail
        refine (l1Below_any p 4 _ hc6 (by omega) (by omega)).mono ?_
        rintro e w7 ⟨r, hr, rfl, hc7, hg7⟩
        have pd7 := Lib.hid (pd6.out.only (only_of hg7) (fun h => by have := h.1; omega) hqp)
        have Q7 := Lib.hid (box_only Q6.out (only_of hg7) (by omega))
        have O7 := Lib.hid (O6.out.trans (only_of hg7))
        have hz7 := hg7.size
        clear pd6 Q6 O6 hc6 hg7
        go_wp2_with fail
        refine (l1Bytes_any p r _ hc7 (by omega)).mono ?_
        rintro e w8 ⟨g, v, l, rfl, o8, hl8, hg8, hc8, hgr8⟩
        have pd8 := Lib.hid (pd7.out.only (only_of hgr8) (fun h => by have := h.1; omega) hqp)
        have Q8 := Lib.hid (box_only Q7.out (only_of hgr8) (by omega))
        have O8 := Lib.hid (O7.out.trans (only_of hgr8))
        have hz8 := hgr8.size
        have hll : l.length ≤ 3 := by omega
        have hgq : g ≠ q := by omega
        clear pd7 Q7 O7 hc7 hgr8 hl8
        have OO := Lib.hid o8
        obtain ⟨cv, rfl, _, _⟩ := o8.rd
        clear o8
        go_wp2_with fail
        refine (l2Write_any q n _ d l _ _ pd8.out hok.out (fun w' hO => ((OO.out.owns (S := fun x => x = g) rfl).far hO (fun b hb _ hb' => hgq (hb ▸ hb'))).reads) (by omega)).mono ?_
        rintro e w9 ⟨rfl, pd9, o9⟩
        have NEW : Hid (DrawIn w p q (k - 1) w9) := by
          refine Lib.hid ⟨writeD d (n : Int) l, ?_, (drawn_write DD.out (by omega)).mono (by omega), hc8.only o9 (fun x hx => by rcases hx with rfl | hx; (· have := hc8.lt; omega); (· have := hx.1; omega)), box_only Q8.out o9 (fun hx => by rcases hx with hx | hx; (· omega); (· have := hx.1; omega)), ?_⟩
          · obtain ⟨A0, c0, A1, c1, h1, h2, h3⟩ := pd9
            exact ⟨A0, c0, A1, c1, h1, h2.mono (fun b hb => hb.elim (fun h => h) (fun h => ⟨by omega, by omega⟩)), fun h => h.2 rfl⟩
          · exact ⟨o9.os.trans O8.out.os, o9.tape.trans O8.out.tape, o9.output.trans O8.out.output, Nat.le_trans O8.out.size o9.size, fun i hi hne => (o9.block i (by omega) (fun hx => by rcases hx with hx | hx; (· omega); (· have := hx.1; omega))).trans (O8.out.block i hi hne)⟩
        clear pd9 o9 pd8 Q8 O8 OO hc8
        go_wp2
        go_roundw
        case rel => exact ⟨k - 1, by omega, congrArg (Value.int .i64) (by omega), NEW⟩
        case measure => simp [intOf]; omega
      · go_wp2_with fail
        refine (l2Flush_any q d _ _ pd5 hok.out).mono ?_
        rintro e w9 ⟨rfl, pd9, o9⟩
        have NEW : Hid (DrawIn w p q (k - 1) w9) := by
          refine Lib.hid ⟨flushD d, ?_, (drawn_flush DD.out).mono (by omega), hc5.only o9 (fun x hx => by rcases hx with rfl | hx; (· have := hc5.lt; omega); (· have := hx.1; omega)), box_only Q5.out o9 (fun hx => by rcases hx with hx | hx; (· omega); (· have := hx.1; omega)), ?_⟩
          · obtain ⟨A0, c0, A1, c1, h1, h2, h3⟩ := pd9
            exact ⟨A0, c0, A1, c1, h1, h2.mono (fun b hb => hb.elim (fun h => h) (fun h => ⟨by omega, by omega⟩)), fun h => h.2 rfl⟩
          · exact ⟨o9.os.trans O5.out.os, o9.tape.trans O5.out.tape, o9.output.trans O5.out.output, Nat.le_trans O5.out.size o9.size, fun i hi hne => (o9.block i (by omega) (fun hx => by rcases hx with hx | hx; (· omega); (· have := hx.1; omega))).trans (O5.out.block i hi hne)⟩
        clear pd9 o9 pd5 Q5 O5 hc5
        go_wp2
        go_roundw
        case rel => exact ⟨k - 1, by omega, congrArg (Value.int .i64) (by omega), NEW⟩
        case measure => simp [intOf]; omega
    · have hk0 : k = 0 := by omega
      subst hk0
      obtain ⟨A0, c0, A1, c1, hq, od, hn⟩ := pd
      obtain ⟨x0, x1, x2, x3, x4⟩ := box4 hq
      obtain ⟨y0, y1, y2, y3, y4⟩ := box4 q4
      have hz4 := o4.size
      have OD := Lib.hid od
      have DD := Lib.hid dd
      have HC4 := Lib.hid hc4
      have O4 := Lib.hid o4
      have nq : ¬ q = w.heap.size := by omega
      have hpc := hc4.lt
      clear dd hc4 q4 o4 HC hq od hn
      go_wp2
      have OO : ∀ a b c d, Only (fun x => x = w.heap.size) wr ((((wr.setCell ⟨w.heap.size, 0, none⟩ a).setCell ⟨w.heap.size, 1, none⟩ b).setCell ⟨w.heap.size, 2, none⟩ c).setCell ⟨w.heap.size, 3, none⟩ d) := fun a b c d => ((((Only.refl (fun x => x = w.heap.size) wr).setCell rfl _).setCell rfl _).setCell rfl _).setCell rfl _
      refine bodyPost_ret (v := .agg #[.slice A0 d.secs.length c0, .slice A1 d.cache.length c1, .int .i64 d.fuse, .bool d.down]) (by simp [results, Try.results86, go_sem, *]) rfl ⟨_, d, rfl, ?_, DD.out.mono (by omega), ?_, ?_⟩
      · exact (OD.out.far (OO _ _ _ _) (fun b hb _ hb' => by have := hb.1; omega)).mono (fun b hb => by have := hb.1; omega)
      · exact HC4.out.only (OO _ _ _ _) (fun x hx => by omega)
      · exact ((((O4.out.setNew (Nat.le_refl _) _).setNew (Nat.le_refl _) _).setNew (Nat.le_refl _) _).setNew (Nat.le_refl _) _)
def DDev (w : World) (e : Ending) (w' : World) : Prop := ∃ v d, e = .returned v ∧ OwnDev w' (fun x => w.heap.size ≤ x) v d ∧ DrawnD 7 d ∧ Below w.heap.size w w'
end Go.Proofs.Ytmeiobpeacdfjaa
