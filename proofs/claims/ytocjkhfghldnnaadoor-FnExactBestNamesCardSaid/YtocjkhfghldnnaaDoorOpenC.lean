/- What the readings of elements and codes say of their cells. -/
import Derived.Test.YtocjkhfghldnnaaDoorOpen
import Derived.Test.YtocjkhfghldnnaaDoorCode
namespace Go.Proofs.YtocjkhfghldnnaaDoor
open Go.ChangeShapes Go.WideShapes Go.ChangeAt Go.RowKit Go.Deep
set_option linter.unusedVariables false

section
variable {H : Type} {enc : TypeId × Value → H} {w : World}
theorem rdEl {cs : List Value} (h : Rd enc Tryd.prog w 62 cs) : ∃ x : El, cs = Flat.cells x ∧ x.name.size ≤ maxLen := by
  obtain ⟨hl, hf⟩ := rd_struct Tryd.underlying62 (by kernel_rfl) (by kernel_rfl) h
  obtain ⟨v0, e0, r0⟩ := hf 0 _ rfl
  obtain ⟨v1, e1, r1⟩ := hf 1 _ rfl
  obtain ⟨v2, e2, r2⟩ := hf 2 _ rfl
  obtain ⟨v3, e3, r3⟩ := hf 3 _ rfl
  obtain ⟨s, rfl, hs⟩ := rd_string Tryd.underlying9 r0
  obtain ⟨n1, rfl, _⟩ := rd_int Tryd.underlying3 r1
  obtain ⟨n2, rfl, _⟩ := rd_int Tryd.underlying3 r2
  obtain ⟨n3, rfl, _⟩ := rd_int Tryd.underlying3 r3
  refine ⟨⟨s, n1, n2, n3⟩, ?_, hs⟩
  match cs, hl, e0, e1, e2, e3 with
  | [a, b, c, d], _, e0, e1, e2, e3 =>
    obtain rfl := Option.some.inj e0
    obtain rfl := Option.some.inj e1
    obtain rfl := Option.some.inj e2
    obtain rfl := Option.some.inj e3
    rfl
theorem rdInt {cs : List Value} (h : Rd enc Tryd.prog w 3 cs) : ∃ x : Int, cs = Flat.cells x ∧ True := by
  have h0 := h
  obtain ⟨fuel, x, hf⟩ := h
  obtain ⟨n, hc, _, hw⟩ := DataW.trod_int Tryd.underlying3 hf
  refine ⟨n, ?_, trivial⟩
  show cs = [Value.int .i64 n]
  simpa using hc
theorem rdCode {cs : List Value} (h : Rd enc Tryd.prog w 25 cs) : ∃ A c L d, ∃ x : Cd, cs = [.slice A x.els.length c, .slice L x.lims.length d, .int .i64 x.rep, .int .i64 x.bon, .int .i64 x.kee, .int .i64 x.fal] ∧ CdAt w A L x ∧ CdLen x := by
  obtain ⟨hl, hf⟩ := rd_struct Tryd.underlying25 (by kernel_rfl) (by kernel_rfl) h
  obtain ⟨v0, e0, r0⟩ := hf 0 _ rfl
  obtain ⟨v1, e1, r1⟩ := hf 1 _ rfl
  obtain ⟨v2, e2, r2⟩ := hf 2 _ rfl
  obtain ⟨v3, e3, r3⟩ := hf 3 _ rfl
  obtain ⟨v4, e4, r4⟩ := hf 4 _ rfl
  obtain ⟨v5, e5, r5⟩ := hf 5 _ rfl
  obtain ⟨A, c, xs, rfl, hx1, hx2, hx3⟩ := rd_list (α := El) (fun x => x.name.size ≤ maxLen) Tryd.underlying22 (by kernel_rfl) (by decide) (fun cs h => rdEl h) r0
  obtain ⟨L, d, ys, rfl, hy1, hy2, hy3⟩ := rd_list (α := Int) (fun x => True) Tryd.underlying23 (by kernel_rfl) (by decide) (fun cs h => rdInt h) r1
  obtain ⟨n2, rfl, _⟩ := rd_int Tryd.underlying3 r2
  obtain ⟨n3, rfl, _⟩ := rd_int Tryd.underlying3 r3
  obtain ⟨n4, rfl, _⟩ := rd_int Tryd.underlying3 r4
  obtain ⟨n5, rfl, _⟩ := rd_int Tryd.underlying3 r5
  refine ⟨A, c, L, d, ⟨xs, ys, n2, n3, n4, n5⟩, ?_, ⟨hx2, hy2⟩, ⟨hx1, hx3, hy1⟩⟩
  match cs, hl, e0, e1, e2, e3, e4, e5 with
  | [a0, a1, a2, a3, a4, a5], _, e0, e1, e2, e3, e4, e5 =>
    obtain rfl := Option.some.inj e0
    obtain rfl := Option.some.inj e1
    obtain rfl := Option.some.inj e2
    obtain rfl := Option.some.inj e3
    obtain rfl := Option.some.inj e4
    obtain rfl := Option.some.inj e5
    rfl
theorem agg_of {P : Program} {base : Nat} {t : TypeId} {fs : Array Field} {v : Value} (ht : P.underlying t = some (.struct fs)) (h : Value.okWide P w .any base t v) : ∃ cs, v = .agg cs := by
  unfold Value.okWide at h
  simp only [ht] at h
  obtain ⟨cs, rfl, _⟩ := h
  exact ⟨cs, rfl⟩
set_option maxRecDepth 100000 in
theorem openElement {base : Nat} {v : Value} {d : DataW H} {p : List MemPlace} (hv : Value.okWide Tryd.prog w .any base 62 v) (h : DataW.Trod enc Tryd.prog w 0 (fun _ => true) true 62 v d p) :
    ∃ x : El, v = x.val ∧ x.name.size ≤ maxLen := by
  obtain ⟨cs, rfl⟩ := agg_of Tryd.underlying62 hv
  obtain ⟨x, hx, hs⟩ := rdEl (rd_of (r := .any) (b0 := 0) h)
  refine ⟨x, ?_, hs⟩
  have hc : cs = ⟨El.cs x⟩ := Array.ext' hx
  rw [hc]
  rfl
set_option maxRecDepth 100000 in
theorem openCode {base : Nat} {v : Value} {d : DataW H} {p : List MemPlace} (hv : Value.okWide Tryd.prog w .any base 25 v) (h : DataW.Trod enc Tryd.prog w 0 (fun _ => true) true 25 v d p) :
    ∃ A c L d, ∃ x : Cd, v = x.val A c L d ∧ CdAt w A L x ∧ CdLen x := by
  obtain ⟨cs, rfl⟩ := agg_of Tryd.underlying25 hv
  obtain ⟨A, c, L, d, x, hx, h1, h2⟩ := rdCode (rd_of (r := .any) (b0 := 0) h)
  refine ⟨A, c, L, d, x, ?_, h1, h2⟩
  have hc : cs = ⟨_⟩ := Array.ext' hx
  rw [hc]
end
end Go.Proofs.YtocjkhfghldnnaaDoor
