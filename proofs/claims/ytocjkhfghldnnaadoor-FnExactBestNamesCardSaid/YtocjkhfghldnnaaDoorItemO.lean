/- What the readings of items say of their cells; items that a call owns. -/
import Derived.Test.YtocjkhfghldnnaaDoorOpenC
import Derived.Test.YtocjkhfghldnnaaDoorOpen
import Derived.Test.YtocjkhfghldnnaaDoorItemL
namespace Go.Proofs.YtocjkhfghldnnaaDoor
open Go.ChangeShapes Go.WideShapes Go.ChangeAt Go.RowKit Go.Deep
set_option linter.unusedVariables false

section
variable {H : Type} {enc : TypeId × Value → H} {w : World}
theorem rdStr {cs : List Value} (h : Rd enc Tryd.prog w 9 cs) : ∃ x : ByteArray, cs = Flat.cells x ∧ x.size ≤ maxLen := by
  obtain ⟨fuel, x, hf⟩ := h
  obtain ⟨s, hc, _, hs⟩ := DataW.trod_string Tryd.underlying9 hf
  refine ⟨s, ?_, hs⟩
  show cs = [Value.string s]
  simpa using hc
theorem rd_bool {P : Program} {t : TypeId} {v : Value} (ht : P.underlying t = some .bool) (h : Rd enc P w t [v]) : ∃ b : Bool, v = .bool b := by
  obtain ⟨fuel, x, hf⟩ := h
  obtain ⟨b, hc, _⟩ := DataW.trod_bool ht hf
  exact ⟨b, by simpa using hc⟩
theorem slice_cells {P : Program} {base : Nat} {t e : TypeId} {v : Value} (ht : P.underlying t = some (.slice e)) (h : Value.okWide P w .any base t v) : v.cells.toList = [v] := by
  unfold Value.okWide at h
  simp only [ht] at h
  cases v <;> first | rfl | (exfalso; simp [Cell.okWide, Cell.ok, ht] at h)
end

theorem itOk_same {x y : Im} (h : Same x y) : pB (ItOk y.ns y.ms) = pB (ItOk x.ns x.ms) := by rw [h.ns, h.ms]
theorem listOk_same {xs ys : List Im} (h : SameS xs ys) : pB (ListOk ys) = pB (ListOk xs) := pB_iff
  ⟨fun k => ⟨by have := h.len; have := k.len; omega, fun i hi => by have hk := k.each i (by have := h.len; omega); rw [(h.each i hi).ns, (h.each i hi).ms] at hk; exact hk⟩,
   fun k => ⟨by have := h.len; have := k.len; omega, fun i hi => by have hk := k.each i (by have := h.len; omega); have he := h.each i (by have := h.len; omega); rw [he.ns, he.ms]; exact hk⟩⟩

/-- A list of items in blocks of S, one for each slice; all of it may be written. -/
structure ImsOwn (S : Nat → Prop) (w : World) (P : Option Addr) (g : Nat) (G : Nat → Nat) (ys : List Im) : Prop where
  out : Owned (fun i => i = g) w P ys
  ns : ∀ i, i < ys.length → Owned (fun j => j = G (2 * i)) w (it ys i).A (it ys i).ns
  ms : ∀ i, i < ys.length → Owned (fun j => j = G (2 * i + 1)) w (it ys i).L (it ys i).ms
  ne : ∀ i, i < 2 * ys.length → G i ≠ g
  inj : ∀ i j, i < j → j < 2 * ys.length → G i ≠ G j
  sg : 0 < ys.length → S g
  sG : ∀ i, i < 2 * ys.length → S (G i)
theorem ImsOwn.ims {S : Nat → Prop} {w : World} {P : Option Addr} {g : Nat} {G : Nat → Nat} {ys : List Im} (h : ImsOwn S w P g G ys) : Ims w w.heap.size P ys :=
  ⟨h.out.lst, fun i hi => ⟨(h.ns i hi).lst, (h.ms i hi).lst⟩⟩
theorem ImsOwn.next {S : Nat → Prop} {w w' : World} {P : Option Addr} {g : Nat} {G : Nat → Nat} {ys : List Im} (h : ImsOwn S w P g G ys) (hb : Below w.heap.size w w') : ImsOwn S w' P g G ys :=
  ⟨h.out.keepB hb, fun i hi => (h.ns i hi).keepB hb, fun i hi => (h.ms i hi).keepB hb, h.ne, h.inj, h.sg, h.sG⟩
theorem ImsOwn.keep {S T : Nat → Prop} {w w' : World} {P : Option Addr} {g : Nat} {G : Nat → Nat} {ys : List Im} (h : ImsOwn S w P g G ys) (k : Only T w w') (hd : ∀ i, S i → ¬ T i) : ImsOwn S w' P g G ys :=
  ⟨fun hp => h.out.keep k (fun i e => by subst e; exact hd _ (h.sg hp)) hp, fun i hi => (h.ns i hi).keep k (fun j e => by subst e; exact hd _ (h.sG _ (by omega))), fun i hi => (h.ms i hi).keep k (fun j e => by subst e; exact hd _ (h.sG _ (by omega))), h.ne, h.inj, h.sg, h.sG⟩
theorem ImsOwn.mono {S T : Nat → Prop} {w : World} {P : Option Addr} {g : Nat} {G : Nat → Nat} {ys : List Im} (h : ImsOwn S w P g G ys) (hS : ∀ i, S i → T i) : ImsOwn T w P g G ys :=
  ⟨h.out, h.ns, h.ms, h.ne, h.inj, fun hp => hS _ (h.sg hp), fun i hi => hS _ (h.sG i hi)⟩

end Go.Proofs.YtocjkhfghldnnaaDoor
