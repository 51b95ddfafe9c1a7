/- A device that comes in as an argument is opened to data. No condition. -/
import Derived.Test.YtkahjomkjhlkbaaOpens
import Derived.Test.YtkahjomkjhlkbaaDevTo
namespace Go.Proofs.Ytkahjomkjhlkbaa
open Go.RowKit Go.ChangeShapes Go.WideShapes Go.Deep
set_option maxRecDepth 100000

theorem secs_opens : Opens Try.prog 24 (fun ds => ∃ ls, ds = [secsD ls]) := by
  have h := Opens.slice (z := 1) (fun l : List UInt8 => [bytesD l]) (fun _ => rfl) (by omega) Try.underlying24 (by kernel_rfl) (bytes_opens Try.underlying22 Try.underlying5 (by kernel_rfl)) 22
  refine h.weaken (fun ds ⟨l, hl⟩ => ⟨l, ?_⟩)
  rw [hl, secsD, flat_one]
theorem wr_opens : Opens Try.prog 119 (fun ds => ∃ p, ds = wrC p) := by
  have h := Opens.struct (P := Try.prog) Try.underlying119 (by kernel_rfl) [fun ds => ∃ n, ds = [.lit (.int .i64 n)] ∧ (Lit.int .i64 n).wf = true, fun ds => ∃ l : List UInt8, ds = [bytesD l]] rfl (fun i hi => by
    match i, hi with
    | 0, _ => exact Opens.int Try.underlying3
    | 1, _ => exact bytes_opens Try.underlying22 Try.underlying5 (by kernel_rfl))
  refine h.weaken (fun ds ⟨dss, hd, hC, hds⟩ => ?_)
  match dss, hd with
  | [a, b], _ =>
    obtain ⟨n, h0, _⟩ := hC 0 (by simp)
    obtain ⟨l, h1⟩ := hC 1 (by simp)
    simp at h0 h1
    subst h0 h1
    exact ⟨(n, l), by rw [hds]; rfl⟩
theorem cache_opens : Opens Try.prog 57 (fun ds => ∃ ps, ds = [cacheA ps]) :=
  (Opens.slice (z := 2) wrC wrC_len (by omega) Try.underlying57 (by kernel_rfl) wr_opens 119).weaken (fun ds ⟨l, hl⟩ => ⟨l, hl⟩)
theorem dev_opens : Opens Try.prog 59 (fun ds => ∃ d : DevD, ds = [secsD d.secs, cacheA d.cache, .lit (.int .i64 d.fuse), .lit (.bool d.down)]) := by
  have h := Opens.struct (P := Try.prog) Try.underlying59 (by kernel_rfl) [fun ds => ∃ ls, ds = [secsD ls], fun ds => ∃ ps, ds = [cacheA ps], fun ds => ∃ n, ds = [.lit (.int .i64 n)] ∧ (Lit.int .i64 n).wf = true, fun ds => ∃ b : Bool, ds = [.lit (.bool b)]] rfl (fun i hi => by
    match i, hi with
    | 0, _ => exact secs_opens
    | 1, _ => exact cache_opens
    | 2, _ => exact Opens.int Try.underlying3
    | 3, _ => exact Opens.bool Try.underlying4)
  refine h.weaken (fun ds ⟨dss, hd, hC, hds⟩ => ?_)
  match dss, hd with
  | [a, b, c, e], _ =>
    obtain ⟨ls, h0⟩ := hC 0 (by simp)
    obtain ⟨ps, h1⟩ := hC 1 (by simp)
    obtain ⟨n, h2, _⟩ := hC 2 (by simp)
    obtain ⟨x, h3⟩ := hC 3 (by simp)
    simp at h0 h1 h2 h3
    subst h0 h1 h2 h3
    exact ⟨⟨ls, ps, n, x⟩, by rw [hds]; rfl⟩
theorem open_devArg {H : Type} {enc : TypeId × Value → H} {w : World} {r : Reach} {b0 base : Nat} {spare : Nat → Bool} {held : Bool} {v : Value} {x : DataW H} {p : List MemPlace}
    (hv : Value.okWide Try.prog w r b0 59 v) (h : DataW.Trod enc Try.prog w base spare held 59 v x p) : ∃ d, RdArg w w.heap.size v d := by
  obtain ⟨cs, rfl, hsz⟩ := okWide_struct Try.underlying59 hv
  obtain ⟨fuel, hf⟩ := h
  obtain ⟨ds, ⟨d, rfl⟩, hr⟩ := dev_opens _ _ _ _ _ _ _ _ _ hf
  obtain ⟨l⟩ := cs
  have hl := hr.1
  simp [Value.cells] at hl
  match l, hl with
  | [a, b, c, e], _ =>
    have r0 := hr.2 0 (by simp [Value.cells]) (by simp)
    have r1 := hr.2 1 (by simp [Value.cells]) (by simp)
    have r2 := hr.2 2 (by simp [Value.cells]) (by simp)
    have r3 := hr.2 3 (by simp [Value.cells]) (by simp)
    simp [Value.cells] at r0 r1 r2 r3
    cases r2
    cases r3
    exact ⟨d, a, b, rfl, r0, r1⟩
theorem open_bytesArg {H : Type} {enc : TypeId × Value → H} {w : World} {r : Reach} {b0 base : Nat} {spare : Nat → Bool} {held : Bool} {v : Value} {x : DataW H} {p : List MemPlace}
    (hv : Value.okWide Try.prog w r b0 22 v) (h : DataW.Trod enc Try.prog w base spare held 22 v x p) : ∃ l, Reads w w.heap.size v (bytesD l) := by
  obtain ⟨A, n, c, rfl⟩ := okWide_slice Try.underlying22 hv
  obtain ⟨fuel, hf⟩ := h
  obtain ⟨ds, ⟨l, rfl⟩, hr⟩ := bytes_opens Try.underlying22 Try.underlying5 (by kernel_rfl) _ _ _ _ _ _ _ _ _ hf
  have r0 := hr.2 0 (by simp [Value.cells]) (by simp)
  simp [Value.cells] at r0
  exact ⟨l, r0⟩
end Go.Proofs.Ytkahjomkjhlkbaa
