/- Contracts of impl.spendFuse and impl.WriteSec. Conditions: no slice holds more than 2^20 elements. -/
import Derived.Test.YtmeiobpeacdfjaaDevCopy
import Derived.Test.YtmeiobpeacdfjaaDevOk
import Derived.Deep.RegionLaw
namespace Go.Proofs.Ytmeiobpeacdfjaa
open Go.RowKit
set_option maxRecDepth 100000
set_option linter.unusedSimpArgs false
set_option linter.unusedVariables false

/-- One operation is counted. -/
def spendF (f : Int) : Int := if f = 0 then -1 else if 0 < f then f - 1 else f
def downF (f : Int) (b : Bool) : Bool := if f = 0 then true else b
def spend (d : DevD) : DevD := { d with fuse := spendF d.fuse, down := downF d.fuse d.down }
def Spent (w : World) (v0 v1 : Value) (f : Int) (dn : Bool) (e : Ending) (w' : World) : Prop := e = .returned (.agg #[v0, v1, .int .i64 (spendF f), .bool (downF f dn)]) ∧ Below w.heap.size w w'
theorem spendFuse_any (A0 A1 : Option Addr) (n0 c0 n1 c1 : Nat) (f : Int) (dn : Bool) (w : World) (hf : f ≤ 1000000) :
    Calls Try.prog 66 #[.agg #[.slice A0 n0 c0, .slice A1 n1 c1, .int .i64 f, .bool dn]] w (Spent w (.slice A0 n0 c0) (.slice A1 n1 c1) f dn) := by
  by_cases h0 : f = 0
  · subst h0
    go_enter Try.func66, Try.ntmps66
    go_wp2
    exact bodyPost_ret (v := .agg #[.slice A0 n0 c0, .slice A1 n1 c1, .int .i64 (-1), .bool true]) (by simp [results, Try.results66, go_sem]) rfl ⟨rfl, bal2 _ _ _⟩
  · have k0 : (f == 0) = false := by simp [h0]
    have H0 : Hid (downF f dn = dn) := Lib.hid (if_neg h0)
    by_cases h1 : 0 < f
    · have E : Hid (spendF f = f - 1) := Lib.hid (by unfold spendF; rw [if_neg h0, if_pos h1])
      clear h0
      go_enter Try.func66, Try.ntmps66
      go_wp2
      exact bodyPost_ret (v := .agg #[.slice A0 n0 c0, .slice A1 n1 c1, .int .i64 (f - 1), .bool dn]) (by simp [results, Try.results66, go_sem]) rfl ⟨by rw [E.out, H0.out], bal2 _ _ _⟩
    · have E : Hid (spendF f = f) := Lib.hid (by unfold spendF; rw [if_neg h0, if_neg h1])
      clear h0
      go_enter Try.func66, Try.ntmps66
      go_wp2
      exact bodyPost_ret (v := .agg #[.slice A0 n0 c0, .slice A1 n1 c1, .int .i64 f, .bool dn]) (by simp [results, Try.results66, go_sem]) rfl ⟨by rw [E.out, H0.out], bal2 _ _ _⟩
def Two (a b : Nat) : Nat → Prop := fun k => k = a ∨ k = b
theorem Two.l (a b : Nat) : Two a b a := .inl rfl
theorem Two.r (a b : Nat) : Two a b b := .inr rfl
/-- What a write to sector n needs. -/
def canW (d : DevD) (n : Int) (l : List UInt8) : Prop := okD d = true ∧ d.down = false ∧ (0 ≤ n ∧ n < d.secs.length) ∧ l.length ≤ 80 ∧ d.cache.length < 60
instance (d : DevD) (n : Int) (l : List UInt8) : Decidable (canW d n l) := by unfold canW; infer_instance
def writeD (d : DevD) (n : Int) (l : List UInt8) : DevD := if canW d n l then (if d.fuse = 0 then spend d else { spend d with cache := d.cache ++ [(n, l)] }) else d
theorem writeD_no {d : DevD} {n : Int} {l : List UInt8} (h : ¬ canW d n l) : writeD d n l = d := if_neg h
theorem writeD_yes {d : DevD} {n : Int} {l : List UInt8} (h : canW d n l) (h0 : d.fuse ≠ 0) : writeD d n l = { spend d with cache := d.cache ++ [(n, l)] } := by
  unfold writeD; rw [if_pos h, if_neg h0]
theorem writeD_down {d : DevD} {n : Int} {l : List UInt8} (h : canW d n l) (h0 : d.fuse = 0) : writeD d n l = spend d := by
  unfold writeD; rw [if_pos h, if_pos h0]
theorem row_ownsS {w : World} {base e z n : Nat} {v : Value} {xs : List Value} {cs : List Dat} (h : w.ownsRow base e z v n xs) (S : Nat → Prop) (hS : ∀ g, v.ownBlock = some g → S g) (ho : OwnsL w (fun b => S b ∧ v.ownBlock ≠ some b) xs cs) (hl : cs.length = n * z) : Owns w S v (.row e z n cs) := by
  rcases row_cases h with ⟨rfl, rfl, rfl⟩ | ⟨g, cap, rfl, hb, hR, hn, hc, _⟩
  · have : cs = [] := List.length_eq_zero_iff.1 (by simpa using hl)
    subst this
    exact .nil _ _ _
  · exact hR.owns (hS g rfl) (ho.mono (fun b hb => ⟨hb.1, fun e => hb.2 (by rw [e]; rfl)⟩)) hn hc hl
theorem Owns.rowL {w : World} {S : Nat → Prop} {v : Value} {e z n : Nat} {cs : List Dat} (h : Owns w S v (.row e z n cs)) (base : Nat) (hb : ∀ b, S b → base ≤ b) :
    ∃ xs, w.ownsRow base e z v n xs ∧ OwnsL w (fun b => S b ∧ v.ownBlock ≠ some b) xs cs ∧ (∀ g, v.ownBlock = some g → S g) := by
  rcases h.rw' with ⟨rfl, rfl, rfl⟩ | ⟨g, cap, xs, rfl, hS, hR, hn, hc, hl, hx, ho⟩
  · exact ⟨[], row_nil _ _ _ _, OwnsL.nil _ _, fun g h => by simp [Value.ownBlock] at h⟩
  · refine ⟨xs, hR.row (hb g hS) hn hc (hx.trans hl), ho.mono (fun b hb => ⟨hb.1, fun h => hb.2 ?_⟩), fun g' h => ?_⟩
    · simp [Value.ownBlock] at h; exact h.symm
    · simp [Value.ownBlock] at h; subst h; exact hS
theorem OwnDev.turn {w : World} {S : Nat → Prop} {v0 v1 : Value} {d : DevD} {f f' : Int} {b b' : Bool} (h : OwnDev w S (.agg #[v0, v1, .int .i64 f, .bool b]) d) : OwnDev w S (.agg #[v0, v1, .int .i64 f', .bool b']) { d with fuse := f', down := b' } := by
  obtain ⟨u0, u1, he, h⟩ := h
  simp at he
  obtain ⟨rfl, rfl, _, _⟩ := he
  exact ⟨_, _, rfl, h⟩
/-- A write is appended to the cache of a device of the call's own. -/
theorem OwnDev.app {w5 w7 w8 : World} {S : Nat → Prop} {v0 v1 v' x : Value} {d : DevD} {f n : Int} {dn : Bool} {l : List UInt8} {base : Nat} {xs : List Value} {S0 S1 : Nat → Prop}
    (h0 : Owns w5 S0 v0 (secsD d.secs)) (hS0 : ∀ b, S0 b → S b) (hS1 : ∀ b, S1 b → S b) (hd : ∀ b, S0 b → ¬ S1 b) (hlt0 : ∀ b, S0 b → b < w5.heap.size) (hlt1 : ∀ b, S1 b → b < w5.heap.size)
    (hxs : OwnsL w5 (fun b => S1 b ∧ v1.ownBlock ≠ some b) xs (d.cache.flatMap wrC)) (hg1 : ∀ g, v1.ownBlock = some g → S1 g)
    (b7 : Below w5.heap.size w5 w7) (ox : Owns w7 (fun b => w5.heap.size ≤ b ∧ b < w7.heap.size) x (bytesD l)) (hr : w8.ownsRow base 78 2 v' (d.cache.length + 1) (xs ++ [.int .i64 n, x])) (hgr : w7.grownBy w8 v1.ownBlock) (hat : v'.ownBlock = v1.ownBlock ∨ v'.ownBlock = some w7.heap.size) (hf : d.fuse = f) (hdn : d.down = dn) :
    OwnDev w8 (fun b => S b ∨ w5.heap.size ≤ b) (.agg #[v0, v', .int .i64 f, .bool dn]) { d with cache := d.cache ++ [(n, l)] } := by
  have hO : Only (fun b => v1.ownBlock = some b) w7 w8 := ⟨hgr.os, hgr.tape, hgr.output, hgr.size, fun i hi hn => hgr.block i hi (fun e => hn e.symm)⟩
  have k0 : Owns w8 S0 v0 (secsD d.secs) := (h0.on b7).far hO (fun b hb _ hb' => hd b hb (hg1 b hb'))
  have k1 := (hxs.on b7).far hO (fun b hb _ hb' => hb.2 hb')
  have k2 := ox.far hO (fun b hb _ hb' => by have := hlt1 b (hg1 b hb'); have := hb.1; omega)
  refine ⟨v0, v', by rw [hf, hdn], ?_⟩
  have hz7 := b7.size
  refine OwnsL.two (S := S0) (T := fun b => S1 b ∨ w5.heap.size ≤ b) k0 ?_ (fun b hb => .inl (hS0 b hb)) (fun b hb => hb.elim (fun h => .inl (hS1 b h)) .inr) (fun b hb hb' => hb'.elim (hd b hb) (fun h => by have := hlt0 b hb; omega))
  unfold cacheD
  rw [List.length_append, List.length_singleton, List.flatMap_append, List.flatMap_singleton]
  have hne : ∀ g, v'.ownBlock = some g → S1 g ∨ w7.heap.size ≤ g := by
    intro g hg
    rcases hat with h | h
    · exact .inl (hg1 g (h ▸ hg))
    · rw [h] at hg; simp at hg; exact .inr (by omega)
  refine row_ownsS hr _ (fun g hg => (hne g hg).elim .inl (fun h => .inr (by omega))) ?_ (by rw [List.length_append, cache_len]; simp only [wrC, List.length_cons, List.length_nil]; omega)
  refine OwnsL.append (S := fun b => S1 b ∧ v1.ownBlock ≠ some b) (T := fun b => w5.heap.size ≤ b ∧ b < w7.heap.size) k1 (OwnsL.two (Owns.lit (fun _ => False) _) k2 (fun _ h => h.elim) (fun _ h => h) (fun _ h => h.elim)) (fun b hb => ⟨.inl hb.1, fun hv => ?_⟩) (fun b hb => ⟨.inr hb.1, fun hv => ?_⟩) (fun b hb hb' => by have := hlt1 b hb.1; have := hb'.1; omega)
  · rcases hat with h | h
    · exact hb.2 (h ▸ hv)
    · rw [h] at hv; simp at hv; have := hlt1 b hb.1; omega
  · rcases hat with h | h
    · have := hlt1 b (hg1 b (h ▸ hv)); have := hb.1; omega
    · rw [h] at hv; simp at hv; have := hb.2; omega
theorem box_grown {w w' : World} {row : Option Nat} {p : Nat} {o : Obj} (q : w.heap[p]? = some o) (hg : w.grownBy w' row) (hne : row ≠ some p) : w'.heap[p]? = some o := (hg.block p (Array.getElem?_eq_some_iff.1 q).1 (fun e => hne e.symm)).trans q
theorem row_shape {w : World} {base e z n : Nat} {v : Value} {xs : List Value} (h : w.ownsRow base e z v n xs) (hn : 0 < n) : ∃ g cap, v = .slice (some ⟨g, 0, none⟩) n cap := by
  rcases row_cases h with ⟨_, h, _⟩ | ⟨g, cap, rfl, _⟩
  · omega
  · exact ⟨g, cap, rfl⟩
/-- The boxes of a device function: its argument, its result, its own copy. -/
def Boxes (wr : World) (p r q : Nat) (a b c : Array Value) : Prop := wr.heap[p]? = some (.cells a 27) ∧ wr.heap[r]? = some (.cells b 27) ∧ wr.heap[q]? = some (.cells c 27)
theorem Boxes.on {w w' : World} {p r q : Nat} {a b c : Array Value} (h : Boxes w p r q a b c) (hb : Below w.heap.size w w') : Boxes w' p r q a b c := ⟨box_on h.1 hb, box_on h.2.1 hb, box_on h.2.2 hb⟩
set_option maxHeartbeats 4000000 in
theorem implWriteSec_any (v b : Value) (d : DevD) (n : Int) (l : List UInt8) (w : World) (hv : RdDev w w.heap.size v d) (hl : Reads w w.heap.size b (bytesD l)) (hs : SmallD d) (hll : l.length ≤ 1048576) :
    Calls Try.prog 23 #[v, .int .i64 n, b] w (NewDev w (writeD d n l)) := by
  have HV := Lib.hid hv
  have HL := Lib.hid hl
  have HS := Lib.hid hs
  obtain ⟨A0, c0, A1, c1, rfl⟩ := hv.shape
  obtain ⟨Ab, cb, rfl, _, _, _⟩ := hl.bytes
  obtain ⟨q0, q1⟩ := al2 w (.cells #[.slice A0 d.secs.length c0, .slice A1 d.cache.length c1, .int .i64 d.fuse, .bool d.down] 27) (.cells #[.slice none 0 0, .slice none 0 0, .int .i64 0, .bool false] 27)
  clear hv hl hs
  go_enter Try.func23, Try.ntmps23
  go_wp2_with fail
  refine (copyDev_any _ d _ (HV.out.on (bal2 _ _ _)) HS.out).mono ?_
  rintro e w1 ⟨x, rfl, o1, b1⟩
  have hb1 := bstep (bal2 _ _ _) b1
  have hz1 := b1.size
  simp only [World.size_alloc] at hz1 o1
  obtain ⟨A2, c2, A3, c3, rfl⟩ := o1.rd.shape
  have bx : Boxes (w1.alloc (.cells #[.slice A2 d.secs.length c2, .slice A3 d.cache.length c3, .int .i64 d.fuse, .bool d.down] 27)) w.heap.size (w.heap.size + 1) w1.heap.size #[.slice A0 d.secs.length c0, .slice A1 d.cache.length c1, .int .i64 d.fuse, .bool d.down] #[.slice none 0 0, .slice none 0 0, .int .i64 0, .bool false] #[.slice A2 d.secs.length c2, .slice A3 d.cache.length c3, .int .i64 d.fuse, .bool d.down] :=
    ⟨box_on (box_on q0 b1) (bal1 _ _), box_on (box_on q1 b1) (bal1 _ _), al1 _ _⟩
  have BX := Lib.hid bx
  have O1 := Lib.hid (o1.lt.on (bal1 w1 (.cells #[.slice A2 d.secs.length c2, .slice A3 d.cache.length c3, .int .i64 d.fuse, .bool d.down] 27)))
  have HB1 := Lib.hid (bstep hb1 (bal1 w1 (.cells #[.slice A2 d.secs.length c2, .slice A3 d.cache.length c3, .int .i64 d.fuse, .bool d.down] 27)))
  have RD := Lib.hid (HV.out.on HB1.out)
  obtain ⟨x0, x1, x2, x3, x4⟩ := box4 (box_on q0 b1)
  have hzz : w.heap.size + 1 < w1.heap.size := by omega
  have hza : w.heap.size < w1.heap.size := by omega
  clear q0 q1 b1 hb1 o1 bx
  go_wp2_with fail
  refine (implDevOk_any _ d _ RD.out HS.out).mono ?_
  rintro e w2 ⟨rfl, b2⟩
  have hb2 := bstep HB1.out b2
  have bx2 := BX.out.on b2
  have o2 := O1.out.on b2
  have hz2 := b2.size
  simp only [World.size_alloc] at hz2
  clear x0 x1 x2 x3 x4 BX O1 b2 RD HB1
  have BX := Lib.hid bx2
  have O2 := Lib.hid o2
  have HB2 := Lib.hid hb2
  obtain ⟨x0, x1, x2, x3, x4⟩ := box4 bx2.1
  obtain ⟨y0, y1, y2, y3, y4⟩ := box4 bx2.2.1
  obtain ⟨z0, z1, z2, z3, z4⟩ := box4 bx2.2.2
  have m1 : Mid w.heap.size (w.heap.size + 2) (w.heap.size + 1) := .mk (by omega) (by omega)
  clear bx2 o2 hb2
  obtain ⟨ss, cs, f, dn⟩ := d
  dsimp only at *
  by_cases hok : okD ⟨ss, cs, f, dn⟩ = true
  · rw [hok]
    have OK := Lib.hid hok
    have FB := (okD_iff _).1 hok
    have f1 : f ≤ 1000 := FB.2.2.2.2.2.2
    have f0 : -1 ≤ f := FB.2.2.2.2.2.1
    have sl : ss.length ≤ 60 := FB.2.1
    have cl : cs.length ≤ 60 := FB.2.2.1
    clear hok FB
    cases dn
    · by_cases hn : 0 ≤ n ∧ n < ss.length
      · go_wp2_with fail
        refine (hasSec_yes _ _ _ _ _ _ _ _ hn.1 hn.2).mono ?_
        rintro e w3 ⟨rfl, b3⟩
        have bx3 := BX.out.on b3
        have O3 := Lib.hid (O2.out.on b3)
        have HB3 := Lib.hid (bstep HB2.out b3)
        have hz3 := b3.size
        have HN := Lib.hid hn
        clear x0 x1 x2 x3 x4 y0 y1 y2 y3 y4 z0 z1 z2 z3 z4 b3 hn BX O2 HB2
        have BX := Lib.hid bx3
        obtain ⟨x0, x1, x2, x3, x4⟩ := box4 bx3.1
        obtain ⟨y0, y1, y2, y3, y4⟩ := box4 bx3.2.1
        obtain ⟨z0, z1, z2, z3, z4⟩ := box4 bx3.2.2
        clear bx3
        by_cases hl : l.length ≤ 80
        · have k1 : decide ((80 : Int) < (l.length : Int)) = false := decide_eq_false (by omega)
          by_cases hc : cs.length < 60
          · have k2 : decide ((60 : Int) ≤ (cs.length : Int)) = false := decide_eq_false (by omega)
            have CAN : Hid (canW ⟨ss, cs, f, false⟩ n l) := Lib.hid ⟨OK.out, rfl, HN.out, hl, hc⟩
            go_wp2_with fail
            refine (spendFuse_any _ _ _ _ _ _ f false _ (by omega)).mono ?_
            rintro e w4 ⟨rfl, b4⟩
            have bx4 := BX.out.on b4
            have O4 := Lib.hid (O3.out.on b4)
            have HB4 := Lib.hid (bstep HB3.out b4)
            have hz4 := b4.size
            clear x0 x1 x2 x3 x4 y0 y1 y2 y3 y4 z0 z1 z2 z3 z4 b4 BX O3 HB3
            obtain ⟨y0, y1, y2, y3, y4⟩ := box4 bx4.2.1
            obtain ⟨z0, z1, z2, z3, z4⟩ := box4 bx4.2.2
            have BX := Lib.hid bx4
            clear bx4
            by_cases hf : f = 0
            · subst hf
              have u1 := Two.l (w.heap.size + 1) w1.heap.size
              have u2 := Two.r (w.heap.size + 1) w1.heap.size
              have e1 : spendF 0 = -1 := rfl
              have e2 : downF 0 false = true := rfl
              rw [e1, e2]
              go_wp2
              refine bodyPost_ret (v := .agg #[.slice A2 ss.length c2, .slice A3 cs.length c3, .int .i64 (-1), .bool true]) (by simp [results, Try.results23, go_sem, *]) rfl ⟨_, rfl, ?_, ?_⟩
              · rw [writeD_down CAN.out rfl]
                exact ((O4.out.turn.far ((((((((((Only.refl (Two (w.heap.size + 1) w1.heap.size) _).setCell u2 _).setCell u2 _).setCell u2 _).setCell u2 _).setCell u1 _).setCell u1 _).setCell u1 _).setCell u1 _)) (fun b hb _ hb' => by have := hb.1; have := hb.2; rcases hb' with rfl | rfl <;> omega))).mono (fun b hb => by have := hb.1; omega)
              · exact HB4.out.trans (((((((((((Only.refl (Two (w.heap.size + 1) w1.heap.size) _).setCell u2 _).setCell u2 _).setCell u2 _).setCell u2 _).setCell u1 _).setCell u1 _).setCell u1 _).setCell u1 _)).below HB4.out.size (fun b hb => by rcases hb with rfl | rfl <;> omega))
            · have e2 : downF f false = false := if_neg hf
              rw [e2]
              have HF := Lib.hid hf
              have OS := Lib.hid (O4.out.turn (f' := spendF f) (b' := false))
              have E2 := Lib.hid e2
              generalize hf2 : spendF f = f2 at *
              have HF2 := Lib.hid hf2
              clear hf2
              have q5 : ∀ a b c d, ((((w4.setCell ⟨w1.heap.size, 0, none⟩ a).setCell ⟨w1.heap.size, 1, none⟩ b).setCell ⟨w1.heap.size, 2, none⟩ c).setCell ⟨w1.heap.size, 3, none⟩ d).heap[w1.heap.size]? = some (.cells #[a, b, c, d] 27) := fun a b c d => box_set (box_set (box_set (box_set BX.out.2.2)))
              have r5 : ∀ a b c d, ((((w4.setCell ⟨w1.heap.size, 0, none⟩ a).setCell ⟨w1.heap.size, 1, none⟩ b).setCell ⟨w1.heap.size, 2, none⟩ c).setCell ⟨w1.heap.size, 3, none⟩ d).heap[w.heap.size + 1]? = some (.cells #[.slice none 0 0, .slice none 0 0, .int .i64 0, .bool false] 27) := fun a b c d => box_far (box_far (box_far (box_far BX.out.2.1 (by omega)) (by omega)) (by omega)) (by omega)
              have u2 := Two.r (w.heap.size + 1) w1.heap.size
              have o5 : ∀ a b c d, Only (Two (w.heap.size + 1) w1.heap.size) w4 ((((w4.setCell ⟨w1.heap.size, 0, none⟩ a).setCell ⟨w1.heap.size, 1, none⟩ b).setCell ⟨w1.heap.size, 2, none⟩ c).setCell ⟨w1.heap.size, 3, none⟩ d) := fun a b c d => ((((Only.refl _ _).setCell u2 _).setCell u2 _).setCell u2 _).setCell u2 _
              have Q5 := Lib.hid q5
              have R5 := Lib.hid r5
              have P5 := Lib.hid o5
              clear q5 r5 o5 e2 hf
              go_wp2
              obtain ⟨w5, hw5⟩ : ∃ w5, w5 = ((((w4.setCell ⟨w1.heap.size, 0, none⟩ (.slice A2 ss.length c2)).setCell ⟨w1.heap.size, 1, none⟩ (.slice A3 cs.length c3)).setCell ⟨w1.heap.size, 2, none⟩ (.int .i64 f2)).setCell ⟨w1.heap.size, 3, none⟩ (.bool false)) := ⟨_, rfl⟩
              rw [← hw5]
              have q5 := hw5 ▸ Q5.out (.slice A2 ss.length c2) (.slice A3 cs.length c3) (.int .i64 f2) (.bool false)
              have r5 := hw5 ▸ R5.out (.slice A2 ss.length c2) (.slice A3 cs.length c3) (.int .i64 f2) (.bool false)
              have o5 := hw5 ▸ P5.out (.slice A2 ss.length c2) (.slice A3 cs.length c3) (.int .i64 f2) (.bool false)
              clear hw5 Q5 R5 P5 y0 y1 y2 y3 y4 z0 z1 z2 z3 z4 BX
              have HB5 := Lib.hid (HB4.out.trans (o5.below HB4.out.size (fun b hb => by rcases hb with rfl | rfl <;> omega)))
              have O5 := OS.out.far o5 (fun b hb _ hb' => by have := hb.1; have := hb.2; rcases hb' with rfl | rfl <;> omega)
              have hz5 := o5.size
              obtain ⟨u0, u1, he, ol⟩ := O5
              simp at he
              obtain ⟨rfl, rfl⟩ := he
              obtain ⟨S0, S1, s0, s1, hS0, hS1, hdj⟩ := ol.pair
              obtain ⟨xs, hrow, hxs, hg1⟩ := s1.rowL (w.heap.size + 2) (fun b hb => (hS1 b hb).1)
              have RB := Lib.hid (HL.out.on HB5.out)
              have hq1 : (Value.slice A3 cs.length c3).ownBlock ≠ some w1.heap.size := fun h => by have := (hS1 _ (hg1 _ h)).2; omega
              have hq2 : (Value.slice A3 cs.length c3).ownBlock ≠ some (w.heap.size + 1) := fun h => by have := (hS1 _ (hg1 _ h)).1; omega
              have Q5 := Lib.hid q5
              have R5 := Lib.hid r5
              have ROW := Lib.hid hrow
              have HXS := Lib.hid hxs
              have HG1 := Lib.hid hg1
              have SS0 := Lib.hid s0
              have HS0 := Lib.hid hS0
              have HS1 := Lib.hid hS1
              have HDJ := Lib.hid hdj
              have HQ1 := Lib.hid hq1
              have HQ2 := Lib.hid hq2
              obtain ⟨z0, z1, z2, z3, z4⟩ := box4 q5
              clear q5 r5 hrow hxs hg1 s0 s1 hS0 hS1 hdj hq1 hq2 ol OS O4 HB4 o5
              go_region_law
                (first
                  | (go_simp; go_at_call 64; refine (cloneB_any _ l _ (RB.out.on ((Below.refl _ _).drew)) hll).mono ?_; rintro e w6 ⟨x, rfl, ox, b6'⟩; have b6 : Below w5.heap.size w5 w6 := (Below.refl _ _).drew.trans b6'; have OX : Hid (Owns w6 (fun b => w5.heap.size ≤ b) x (bytesD l)) := Lib.hid ox; obtain ⟨a0, a1, a2, a3, a4⟩ := box4 (box_on Q5.out b6); obtain ⟨Ax, dx, rfl, _, _⟩ := ox.reads.len; have hz6 := b6.size; have B6 := Lib.hid b6; have hz7 : w1.heap.size < w6.heap.size := (by omega); clear ox b6 b6')
                  | (refine step_appV _ (by rfl) (.tmp 41) (.tmp 46) 25 78 2 32 (.agg #[.int .i64 0, .slice none 0 0]) (by rfl) Try.underlying25 (by kernel_rfl) rfl (by omega) (by omega) (w.heap.size + 2) cs.length _ xs (by rfl) (row_on (row_on ROW.out B6.out) (bal1 _ _)) _ 1 1 [.int .i64 n, .slice Ax l.length dx] (by rfl) rfl (At.lit2 _ _ _ _) (by simp [Value.oneCell']) (by omega) (by simp; omega) ?_; intro v8 w8 o8 g8 n8 at8; have h8 := box_grown (box_on (box_on Q5.out B6.out) (bal1 _ _)) g8 HQ1.out; have k8 := box_grown (box_on (box_on R5.out B6.out) (bal1 _ _)) g8 HQ2.out; obtain ⟨gv, cv, rfl⟩ := row_shape o8 (by omega); obtain ⟨f0, f1, f2', f3, f4⟩ := box4 h8; have H8 := Lib.hid h8; have K8 := Lib.hid k8; have O8 := Lib.hid o8; have G8 := Lib.hid g8; have AT8 := Lib.hid at8; clear h8 k8 o8 g8 at8 n8))
              all_goals
                have OD := Lib.hid (OwnDev.app (d := ⟨ss, cs, f2, false⟩) (n := n) (l := l) SS0.out HS0.out HS1.out HDJ.out (fun b hb => by have := (HS0.out b hb).2; omega) (fun b hb => by have := (HS1.out b hb).2; omega) HXS.out HG1.out (bstep B6.out (bal1 _ _)) (OX.out.on (bal1 _ _)).lt O8.out G8.out AT8.out rfl rfl)
                have HB8 := Lib.hid (grown_below (bstep (bstep HB5.out B6.out) (bal1 _ _)) G8.out (row_on (row_on ROW.out B6.out) (bal1 _ _)) (by omega))
                have hz8 := G8.out.size
                simp only [World.size_alloc] at hz8
                obtain ⟨y0, y1, y2, y3, y4⟩ := box4 K8.out
                have u1 := Two.l (w.heap.size + 1) w1.heap.size
                clear z0 z1 z2 z3 z4 a0 a1 a2 a3 a4 OX B6 O8 G8 AT8 H8 K8 HXS HG1 ROW Q5 R5 RB HQ1 HQ2
                go_wp2
                refine bodyPost_ret (v := .agg #[.slice A2 ss.length c2, .slice (some ⟨gv, 0, none⟩) (cs.length + 1) cv, .int .i64 f2, .bool false]) (by simp [results, Try.results23, go_sem, *]) rfl ⟨_, rfl, ?_, ?_⟩
                · rw [writeD_yes CAN.out HF.out]
                  simp only [spend, HF2.out, E2.out]
                  exact (OD.out.far (((((((Only.refl (Two (w.heap.size + 1) w1.heap.size) _).setCell u2 _).setCell u1 _).setCell u1 _).setCell u1 _).setCell u1 _)) (fun b hb _ hb' => by rcases hb with hb | hb <;> rcases hb' with rfl | rfl <;> omega)).mono (T := fun b => w.heap.size ≤ b) (fun b hb => by rcases hb with hb | hb <;> omega)
                · exact HB8.out.trans ((((((((Only.refl (Two (w.heap.size + 1) w1.heap.size) _).setCell u2 _).setCell u1 _).setCell u1 _).setCell u1 _).setCell u1 _)).below HB8.out.size (fun b hb => by rcases hb with rfl | rfl <;> omega))
          · have k2 : decide ((60 : Int) ≤ (cs.length : Int)) = true := decide_eq_true (by omega)
            go_wp2
            refine bodyPost_ret (v := .agg #[.slice A2 ss.length c2, .slice A3 cs.length c3, .int .i64 f, .bool false]) (by simp [results, Try.results23, go_sem, *]) rfl ⟨_, rfl, ?_, ?_⟩
            · rw [writeD_no (fun h => hc h.2.2.2.2)]; exact (O3.out.mono (fun b hb => hb.1)).past (a := w.heap.size) (b := w.heap.size + 2) (((((Only.refl _ _).setCell m1 _).setCell m1 _).setCell m1 _).setCell m1 _) (by omega)
            · exact bpast (b := w.heap.size + 2) HB3.out (((((Only.refl _ _).setCell m1 _).setCell m1 _).setCell m1 _).setCell m1 _)
        · have k1 : decide ((80 : Int) < (l.length : Int)) = true := decide_eq_true (by omega)
          go_wp2
          refine bodyPost_ret (v := .agg #[.slice A2 ss.length c2, .slice A3 cs.length c3, .int .i64 f, .bool false]) (by simp [results, Try.results23, go_sem, *]) rfl ⟨_, rfl, ?_, ?_⟩
          · rw [writeD_no (fun h => hl h.2.2.2.1)]; exact (O3.out.mono (fun b hb => hb.1)).past (a := w.heap.size) (b := w.heap.size + 2) (((((Only.refl _ _).setCell m1 _).setCell m1 _).setCell m1 _).setCell m1 _) (by omega)
          · exact bpast (b := w.heap.size + 2) HB3.out (((((Only.refl _ _).setCell m1 _).setCell m1 _).setCell m1 _).setCell m1 _)
      · go_wp2_with fail
        refine (hasSec_no _ _ _ _ _ _ _ _ (by omega)).mono ?_
        rintro e w3 ⟨rfl, b3⟩
        have bx3 := BX.out.on b3
        have O3 := Lib.hid (O2.out.on b3)
        have HB3 := Lib.hid (bstep HB2.out b3)
        have HN := Lib.hid hn
        have hz3 := b3.size
        clear x0 x1 x2 x3 x4 y0 y1 y2 y3 y4 z0 z1 z2 z3 z4 b3 hn BX O2 HB2
        obtain ⟨x0, x1, x2, x3, x4⟩ := box4 bx3.1
        obtain ⟨y0, y1, y2, y3, y4⟩ := box4 bx3.2.1
        obtain ⟨z0, z1, z2, z3, z4⟩ := box4 bx3.2.2
        clear bx3
        go_wp2
        refine bodyPost_ret (v := .agg #[.slice A2 ss.length c2, .slice A3 cs.length c3, .int .i64 f, .bool false]) (by simp [results, Try.results23, go_sem, *]) rfl ⟨_, rfl, ?_, ?_⟩
        · rw [writeD_no (fun h => HN.out h.2.2.1)]; exact (O3.out.mono (fun b hb => hb.1)).past (a := w.heap.size) (b := w.heap.size + 2) (((((Only.refl _ _).setCell m1 _).setCell m1 _).setCell m1 _).setCell m1 _) (by omega)
        · exact bpast (b := w.heap.size + 2) HB3.out (((((Only.refl _ _).setCell m1 _).setCell m1 _).setCell m1 _).setCell m1 _)
    · 
      go_wp2
      refine bodyPost_ret (v := .agg #[.slice A2 ss.length c2, .slice A3 cs.length c3, .int .i64 f, .bool true]) (by simp [results, Try.results23, go_sem, *]) rfl ⟨_, rfl, ?_, ?_⟩
      · rw [writeD_no (fun h => by cases h.2.1)]; exact (O2.out.mono (fun b hb => hb.1)).past (a := w.heap.size) (b := w.heap.size + 2) (((((Only.refl _ _).setCell m1 _).setCell m1 _).setCell m1 _).setCell m1 _) (by omega)
      · exact bpast (b := w.heap.size + 2) HB2.out (((((Only.refl _ _).setCell m1 _).setCell m1 _).setCell m1 _).setCell m1 _)
  · have hok2 : okD ⟨ss, cs, f, dn⟩ = false := by simpa using hok
    rw [hok2]
    have OK := Lib.hid hok
    clear hok hok2
    go_wp2
    refine bodyPost_ret (v := .agg #[.slice A2 ss.length c2, .slice A3 cs.length c3, .int .i64 f, .bool dn]) (by simp [results, Try.results23, go_sem, *]) rfl ⟨_, rfl, ?_, ?_⟩
    · rw [writeD_no (fun h => OK.out h.1)]; exact (O2.out.mono (fun b hb => hb.1)).past (a := w.heap.size) (b := w.heap.size + 2) (((((Only.refl _ _).setCell m1 _).setCell m1 _).setCell m1 _).setCell m1 _) (by omega)
    · exact bpast (b := w.heap.size + 2) HB2.out (((((Only.refl _ _).setCell m1 _).setCell m1 _).setCell m1 _).setCell m1 _)
end Go.Proofs.Ytmeiobpeacdfjaa
