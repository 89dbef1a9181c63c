/- What an argument's reading says of its cells: numbers, strings, structs of one-cell fields, slices of what lies flat. -/
import Derived.Test.YtfeffkjmjkddnaaDoorFlat
import Derived.Deep.Slices
import Derived.Deep.Fields
import Derived.ChangeSame
import Derived.ChangeArms
import Derived.WideShapes
namespace Go.Proofs.YtfeffkjmjkddnaaDoor
open Go.ChangeShapes Go.WideShapes Go.ChangeAt Go.RowKit Go.Deep
set_option linter.unusedVariables false

section
variable {H : Type} {enc : TypeId × Value → H} {P : Program} {w : World}
/-- The cells cs can be read as a value of type t. -/
def Rd (enc : TypeId × Value → H) (P : Program) (w : World) (t : TypeId) (cs : List Value) : Prop := ∃ fuel x, DataW.trod enc P w 0 (fun _ => true) true fuel t cs = some x

theorem rd_int {t : TypeId} {k : IntKind} {v : Value} (ht : P.underlying t = some (.int k)) (h : Rd enc P w t [v]) : ∃ n, v = .int k n ∧ (Lit.int k n).wf = true := by
  obtain ⟨fuel, x, hf⟩ := h
  obtain ⟨n, hc, _, hw⟩ := DataW.trod_int ht hf
  exact ⟨n, by simpa using hc, hw⟩
theorem rd_string {t : TypeId} {v : Value} (ht : P.underlying t = some .string) (h : Rd enc P w t [v]) : ∃ s : ByteArray, v = .string s ∧ s.size ≤ maxLen := by
  obtain ⟨fuel, x, hf⟩ := h
  obtain ⟨s, hc, _, hs⟩ := DataW.trod_string ht hf
  exact ⟨s, by simpa using hc, hs⟩
theorem rd_struct {t : TypeId} {fs : Array Field} {cs : List Value} (ht : P.underlying t = some (.struct fs)) (hone : oneCellFields P fs = true) (hC : P.cellsOf t = fs.size) (h : Rd enc P w t cs) :
    cs.length = fs.size ∧ ∀ (j : Nat) (f : Field), fs[j]? = some f → ∃ v, cs[j]? = some v ∧ Rd enc P w f.type [v] := by
  obtain ⟨fuel, x, hf⟩ := h
  obtain ⟨ys, n, _, _, hlen, hyl, hg⟩ := DataW.trod_struct ht hf
  rw [hC] at hlen
  refine ⟨hlen, fun j f hj => ?_⟩
  obtain ⟨ho, hk⟩ := hone_of hone j f hj
  have hjl : j < fs.size := (Array.getElem?_eq_some_iff.1 hj).1
  have h1 := hg j f hj
  rw [ho, hk, List.drop_eq_getElem_cons (by omega), List.take_succ_cons, List.take_zero, List.getElem?_eq_getElem (by omega)] at h1
  exact ⟨_, List.getElem?_eq_getElem (by omega), n, _, h1⟩
theorem rd_of {r : Reach} {b0 : Nat} {t : TypeId} {v : Value} {d : DataW H} {p : List MemPlace} (h : DataW.Trod enc P w 0 (fun _ => true) true t v d p) : Rd enc P w t v.cells.toList := by
  obtain ⟨fuel, hf⟩ := h
  exact ⟨fuel, _, hf⟩
theorem choose_list {α : Type} [Inhabited α] (n : Nat) (Q : Nat → α → Prop) (h : ∀ i, i < n → ∃ x, Q i x) : ∃ xs : List α, xs.length = n ∧ ∀ i, i < n → Q i (it xs i) := by
  induction n with
  | zero => exact ⟨[], rfl, fun i hi => absurd hi (by omega)⟩
  | succ n ih =>
    obtain ⟨xs, hl, hx⟩ := ih (fun i hi => h i (by omega))
    obtain ⟨x, hq⟩ := h n (by omega)
    refine ⟨xs ++ [x], by simp [hl], fun i hi => ?_⟩
    unfold it
    rw [List.getD_eq_getElem?_getD]
    rcases Nat.lt_or_ge i n with hlt | hge
    · rw [List.getElem?_append_left (by omega), ← List.getD_eq_getElem?_getD]
      exact hx i hlt
    · obtain rfl : i = n := by omega
      rw [List.getElem?_append_right (by omega), hl]
      simpa using hq
theorem rd_list {α : Type} [Flat α] {t e : TypeId} {v : Value} (Q : α → Prop) (ht : P.underlying t = some (.slice e)) (hC : P.cellsOf e = Flat.sz α) (hs : 0 < Flat.sz α)
    (hel : ∀ cs, Rd enc P w e cs → ∃ x : α, cs = Flat.cells x ∧ Q x) (h : Rd enc P w t [v]) :
    ∃ (A : Option Addr) (cap : Nat) (xs : List α), v = .slice A xs.length cap ∧ xs.length ≤ maxLen ∧ Lst w w.heap.size A xs ∧ ∀ i, i < xs.length → Q (it xs i) := by
  obtain ⟨fuel, x, hf⟩ := h
  rcases open_slice ht hf with ⟨hc, _⟩ | ⟨a, len, cap, m, n, D, Pl, hcs, hb, hl, hm, hmm, hx, hi⟩
  · exact ⟨none, 0, [], by simpa using hc, by unfold maxLen; simp, Lst.nil _ _ _, fun i hi => absurd hi (by simp)⟩
  · have hlm : len ≤ m := by
      rw [hmm]
      simpa using hl
    obtain ⟨xs, hxl, hxs⟩ := choose_list len (fun i (x : α) => (∃ cs', w.cells? 0 (a.add (i * P.cellsOf e)) (P.cellsOf e) = some cs' ∧ cs' = Flat.cells x) ∧ Q x) (fun i hil => by
      obtain ⟨cs', hc, ht'⟩ := hi i (by omega)
      obtain ⟨x, hx, hq⟩ := hel cs' ⟨n, _, ht'⟩
      exact ⟨x, ⟨cs', hc, hx⟩, hq⟩)
    refine ⟨some a, cap, xs, by simpa [hxl] using hcs, by rw [hxl]; omega, fun hp => ?_, fun i hil => (hxs i (by omega)).2⟩
    have hcell : ∀ i, i < len → ∀ j v, (Flat.cells (it xs i))[j]? = some v → w.cell? ((a.add (i * Flat.sz α)).add j) = some v := fun i hil j v hv => by
      obtain ⟨⟨cs', hc, rfl⟩, _⟩ := hxs i hil
      obtain ⟨_, hcl, hat⟩ := World.cells?_some hc
      have hj : j < P.cellsOf e := by
        have := (List.getElem?_eq_some_iff.1 hv).1
        rw [Flat.len] at this
        omega
      have := hat j hj
      rw [hC] at this
      rw [this]
      exact hv
    have h0 := hcell 0 (by omega) 0 _ (List.getElem?_eq_getElem (by rw [Flat.len]; exact hs))
    obtain ⟨b, o, s⟩ := a
    have hs0 : s = none := by
      have := World.cell?_spot h0
      rw [Nat.zero_mul] at this
      simpa [Addr.add] using this
    subst hs0
    have hadd : ∀ i j : Nat, ((⟨b, o, none⟩ : Addr).add i).add j = ⟨b, o + i + j, none⟩ := fun i j => by
      unfold Addr.add
      by_cases e1 : i = 0 <;> by_cases e2 : j = 0 <;> simp [e1, e2]
    refine ⟨b, o, rfl, ?_, fun i hil j v hv => ?_⟩
    · rw [hadd] at h0
      rcases Nat.lt_or_ge b w.heap.size with hlt | hge
      · exact hlt
      · unfold World.cell? at h0
        rw [Array.getElem?_eq_none (by exact hge)] at h0
        simp at h0
    · rw [← hadd]
      exact hcell i (by omega) j v hv
end
end Go.Proofs.YtfeffkjmjkddnaaDoor
