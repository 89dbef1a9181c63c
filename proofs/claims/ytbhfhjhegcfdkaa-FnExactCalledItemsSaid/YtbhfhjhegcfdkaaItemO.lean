/- What the readings of items say of their cells; items that a call owns. -/
import Derived.Test.YtbhfhjhegcfdkaaOpen
import Derived.Test.YtbhfhjhegcfdkaaItemL
namespace Go.Proofs.Ytbhfhjhegcfdkaa
open Go.ChangeShapes Go.WideShapes Go.ChangeAt Go.RowKit Go.Deep
set_option linter.unusedVariables false

section
variable {H : Type} {enc : TypeId × Value → H} {w : World}
theorem rdInt {cs : List Value} (h : Rd enc Try.prog w 3 cs) : ∃ x : Int, cs = Flat.cells x ∧ True := by
  have h0 := h
  obtain ⟨fuel, x, hf⟩ := h
  obtain ⟨n, hc, _, hw⟩ := DataW.trod_int Try.underlying3 hf
  refine ⟨n, ?_, trivial⟩
  show cs = [Value.int .i64 n]
  simpa using hc
theorem rdStr {cs : List Value} (h : Rd enc Try.prog w 9 cs) : ∃ x : ByteArray, cs = Flat.cells x ∧ x.size ≤ maxLen := by
  obtain ⟨fuel, x, hf⟩ := h
  obtain ⟨s, hc, _, hs⟩ := DataW.trod_string Try.underlying9 hf
  refine ⟨s, ?_, hs⟩
  show cs = [Value.string s]
  simpa using hc
theorem rd_bool {P : Program} {t : TypeId} {v : Value} (ht : P.underlying t = some .bool) (h : Rd enc P w t [v]) : ∃ b : Bool, v = .bool b := by
  obtain ⟨fuel, x, hf⟩ := h
  obtain ⟨b, hc, _⟩ := DataW.trod_bool ht hf
  exact ⟨b, by simpa using hc⟩
theorem rdItem {cs : List Value} (h : Rd enc Try.prog w 66 cs) : ∃ x : Im, cs = Flat.cells x ∧ (ImIn w w.heap.size x ∧ ItLen x) := by
  obtain ⟨hl, hf⟩ := rd_struct Try.underlying66 (by kernel_rfl) (by kernel_rfl) h
  obtain ⟨v0, e0, r0⟩ := hf 0 _ rfl
  obtain ⟨v1, e1, r1⟩ := hf 1 _ rfl
  obtain ⟨v2, e2, r2⟩ := hf 2 _ rfl
  obtain ⟨A, c, xs, rfl, hx1, hx2, hx3⟩ := rd_list (α := ByteArray) (fun x => x.size ≤ maxLen) Try.underlying53 (by kernel_rfl) (by decide) (fun cs h => rdStr h) r0
  obtain ⟨L, d, ys, rfl, hy1, hy2, hy3⟩ := rd_list (α := Int) (fun x => True) Try.underlying54 (by kernel_rfl) (by decide) (fun cs h => rdInt h) r1
  obtain ⟨b, rfl⟩ := rd_bool Try.underlying4 r2
  refine ⟨⟨A, c, L, d, xs, ys, b⟩, ?_, ⟨hx2, hy2⟩, ⟨⟨hx1, hx3⟩, hy1⟩⟩
  match cs, hl, e0, e1, e2 with
  | [a0, a1, a2], _, e0, e1, e2 =>
    obtain rfl := Option.some.inj e0
    obtain rfl := Option.some.inj e1
    obtain rfl := Option.some.inj e2
    rfl
theorem agg_of {P : Program} {base : Nat} {t : TypeId} {fs : Array Field} {v : Value} (ht : P.underlying t = some (.struct fs)) (h : Value.okWide P w .any base t v) : ∃ cs, v = .agg cs := by
  unfold Value.okWide at h
  simp only [ht] at h
  obtain ⟨cs, rfl, _⟩ := h
  exact ⟨cs, rfl⟩
theorem slice_cells {P : Program} {base : Nat} {t e : TypeId} {v : Value} (ht : P.underlying t = some (.slice e)) (h : Value.okWide P w .any base t v) : v.cells.toList = [v] := by
  unfold Value.okWide at h
  simp only [ht] at h
  cases v <;> first | rfl | (exfalso; simp [Cell.okWide, Cell.ok, ht] at h)
set_option maxRecDepth 100000 in
theorem openItem {base : Nat} {v : Value} {d : DataW H} {p : List MemPlace} (hv : Value.okWide Try.prog w .any base 66 v) (h : DataW.Trod enc Try.prog w 0 (fun _ => true) true 66 v d p) :
    ∃ x : Im, v = x.val ∧ ImIn w w.heap.size x ∧ ItLen x := by
  obtain ⟨cs, rfl⟩ := agg_of Try.underlying66 hv
  obtain ⟨x, hx, h1, h2⟩ := rdItem (rd_of (r := .any) (b0 := 0) h)
  refine ⟨x, ?_, h1, h2⟩
  have hc : cs = ⟨Im.cs x⟩ := Array.ext' hx
  rw [hc]
  rfl
set_option maxRecDepth 100000 in
theorem openItems {base : Nat} {v : Value} {d : DataW H} {p : List MemPlace} (hv : Value.okWide Try.prog w .any base 22 v) (h : DataW.Trod enc Try.prog w 0 (fun _ => true) true 22 v d p) :
    ∃ (P : Option Addr) (c : Nat) (xs : List Im), v = .slice P xs.length c ∧ Ims w w.heap.size P xs ∧ ImsLen xs := by
  have hr := rd_of (r := .any) (b0 := 0) h
  rw [slice_cells Try.underlying22 hv] at hr
  obtain ⟨A, c, xs, rfl, hx1, hx2, hx3⟩ := rd_list (α := Im) (fun x => ImIn w w.heap.size x ∧ ItLen x) Try.underlying22 (by kernel_rfl) (by decide) (fun cs h => rdItem h) hr
  exact ⟨A, c, xs, rfl, ⟨hx2, fun i hi => (hx3 i hi).1⟩, ⟨hx1, fun i hi => (hx3 i hi).2⟩⟩
end

theorem itOk_same {x y : Im} (h : Same x y) : pB (ItOk y.ns y.ms) = pB (ItOk x.ns x.ms) := by rw [h.ns, h.ms]
theorem listOk_same {xs ys : List Im} (h : SameS xs ys) : pB (ListOk ys) = pB (ListOk xs) := pB_iff
  ⟨fun k => ⟨by have := h.len; have := k.len; omega, fun i hi => by have hk := k.each i (by have := h.len; omega); rw [(h.each i hi).ns, (h.each i hi).ms] at hk; exact hk⟩,
   fun k => ⟨by have := h.len; have := k.len; omega, fun i hi => by have hk := k.each i (by have := h.len; omega); have he := h.each i (by have := h.len; omega); rw [he.ns, he.ms]; exact hk⟩⟩

/-- A list of items in blocks of S, one for each slice; all of it may be written. -/
structure ImsOwn (S : Nat → Prop) (w : World) (P : Option Addr) (g : Nat) (G : Nat → Nat) (ys : List Im) : Prop where
  out : Owned (fun i => i = g) w P ys
  ns : ∀ i, i < ys.length → Owned (fun j => j = G (2 * i)) w (it ys i).A (it ys i).ns
  ms : ∀ i, i < ys.length → Owned (fun j => j = G (2 * i + 1)) w (it ys i).L (it ys i).ms
  ne : ∀ i, i < 2 * ys.length → G i ≠ g
  inj : ∀ i j, i < j → j < 2 * ys.length → G i ≠ G j
  sg : 0 < ys.length → S g
  sG : ∀ i, i < 2 * ys.length → S (G i)
theorem ImsOwn.ims {S : Nat → Prop} {w : World} {P : Option Addr} {g : Nat} {G : Nat → Nat} {ys : List Im} (h : ImsOwn S w P g G ys) : Ims w w.heap.size P ys :=
  ⟨h.out.lst, fun i hi => ⟨(h.ns i hi).lst, (h.ms i hi).lst⟩⟩
theorem ImsOwn.next {S : Nat → Prop} {w w' : World} {P : Option Addr} {g : Nat} {G : Nat → Nat} {ys : List Im} (h : ImsOwn S w P g G ys) (hb : Below w.heap.size w w') : ImsOwn S w' P g G ys :=
  ⟨h.out.keepB hb, fun i hi => (h.ns i hi).keepB hb, fun i hi => (h.ms i hi).keepB hb, h.ne, h.inj, h.sg, h.sG⟩
theorem ImsOwn.keep {S T : Nat → Prop} {w w' : World} {P : Option Addr} {g : Nat} {G : Nat → Nat} {ys : List Im} (h : ImsOwn S w P g G ys) (k : Only T w w') (hd : ∀ i, S i → ¬ T i) : ImsOwn S w' P g G ys :=
  ⟨fun hp => h.out.keep k (fun i e => by subst e; exact hd _ (h.sg hp)) hp, fun i hi => (h.ns i hi).keep k (fun j e => by subst e; exact hd _ (h.sG _ (by omega))), fun i hi => (h.ms i hi).keep k (fun j e => by subst e; exact hd _ (h.sG _ (by omega))), h.ne, h.inj, h.sg, h.sG⟩
theorem ImsOwn.mono {S T : Nat → Prop} {w : World} {P : Option Addr} {g : Nat} {G : Nat → Nat} {ys : List Im} (h : ImsOwn S w P g G ys) (hS : ∀ i, S i → T i) : ImsOwn T w P g G ys :=
  ⟨h.out, h.ns, h.ms, h.ne, h.inj, fun hp => hS _ (h.sg hp), fun i hi => hS _ (h.sG i hi)⟩

/-- A copy of a list of items, in blocks of its own. -/
theorem toItemS_c (P : Option Addr) (c : Nat) (xs : List Im) (w : World) (hr : Ims w w.heap.size P xs) (hl : ImsFits xs) :
    Calls Try.prog 19 #[.slice P xs.length c] w fun e w' => e = .returned (.slice (some ⟨w.heap.size, 0, none⟩) xs.length xs.length) ∧ (∃ ys g G, SameS xs ys ∧ ImsOwn (fun i => w.heap.size ≤ i ∧ i < w'.heap.size) w' (some ⟨w.heap.size, 0, none⟩) g G ys) ∧ Below w.heap.size w w' := by
  refine (toItemS_any P c xs w hr hl).mono ?_
  rintro e w' ⟨rfl, ⟨ys, G, hy, ho, hc, ht, ha⟩, hs, hb⟩
  refine ⟨rfl, ⟨ys, w.heap.size, G, ⟨hy, fun i hi => by rw [hc i hi]; exact same_cpy _ _ _⟩, fun _ => ⟨_, 0, rfl, rfl, hs, ho⟩, fun i hi => ?_, fun i hi => ?_, fun i hi e => ?_, fun i j h1 h2 => ha.ne i j h1 (by omega), fun _ => ⟨Nat.le_refl _, hs⟩, fun i hi => ⟨by have := ha.lo i (by omega); omega, ha.hi i (by omega)⟩⟩, hb⟩
  · rw [hc i (by omega)]
    exact fun _ => ⟨_, 0, rfl, rfl, ha.hi _ (by omega), ht.ns i (by omega)⟩
  · rw [hc i (by omega)]
    exact fun _ => ⟨_, 0, rfl, rfl, ha.hi _ (by omega), ht.ms i (by omega)⟩
  · have := ha.lo i (by omega)
    omega
/-- A copy of an item. -/
theorem toItem_c (x : Im) (w : World) (hr : ImIn w w.heap.size x) (hl : ItFits x) :
    Calls Try.prog 41 #[x.val] w fun e w' => (∃ y, e = .returned y.val ∧ Same x y ∧ ImIn w' w'.heap.size y) ∧ Below w.heap.size w w' := by
  refine (toItem_any x w hr hl).mono ?_
  rintro e w' ⟨⟨g1, g2, rfl, h1, h2, l1, l2, l3⟩, hb⟩
  exact ⟨⟨x.cpy g1 g2, rfl, same_cpy _ _ _, fun _ => ⟨g1, 0, rfl, by omega, h1.cell⟩, fun _ => ⟨g2, 0, rfl, by omega, h2.cell⟩⟩, hb⟩
end Go.Proofs.Ytbhfhjhegcfdkaa
