/- CleanItems in the model: a list built by appends, each item in blocks of its own. -/
import Derived.Test.YtbhfhjhegcfdkaaItemK
namespace Go.Proofs.Ytbhfhjhegcfdkaa
open Go.ChangeShapes Go.WideShapes Go.ChangeAt Go.RowKit Go.PlainAid
set_option linter.unusedVariables false

theorem own_heap {w w' : World} {base size n : Nat} {e : TypeId} {v : Value} {xs : List Value} (h : w.ownsRow base e size v n xs) (hb : ∀ k, v.ownBlock = some k → w'.heap[k]? = w.heap[k]?) : w'.ownsRow base e size v n xs := by
  obtain ⟨h1, h2⟩ := h
  refine ⟨h1, ?_⟩
  rcases h2 with h2 | ⟨g, cap, cur, rfl, h3, h4, h5⟩
  · exact .inl h2
  · exact .inr ⟨g, cap, cur, rfl, h3, (hb g rfl).trans h4, h5⟩
theorem own_next {w w' : World} {base size n : Nat} {e : TypeId} {v : Value} {xs : List Value} (h : w.ownsRow base e size v n xs) (hb : Below w.heap.size w w') : w'.ownsRow base e size v n xs :=
  own_heap h (fun k e => hb.block k (h.lt k e).2)
/-- An item without marks, in the blocks g1 and g2. -/
structure ClnAt (w : World) (x y : Im) (g1 g2 : Nat) : Prop where
  A : y.A = some ⟨g1, 0, none⟩
  L : y.L = some ⟨g2, 0, none⟩
  ns : y.ns = x.ns
  ms : y.ms = zer x.ns.length
  late : y.late = x.late
  o1 : OwnAt w g1 0 x.ns
  o2 : OwnAt w g2 0 (zer x.ns.length)
theorem ClnAt.keep {w w' : World} {x y : Im} {g1 g2 : Nat} (h : ClnAt w x y g1 g2) (h1 : w'.heap[g1]? = w.heap[g1]?) (h2 : w'.heap[g2]? = w.heap[g2]?) : ClnAt w' x y g1 g2 :=
  ⟨h.A, h.L, h.ns, h.ms, h.late, h.o1.block h1, h.o2.block h2⟩
def ClnTo (w : World) (xs ys : List Im) (G : Nat → Nat) (k : Nat) : Prop := ∀ j, j < k → ClnAt w (it xs j) (it ys j) (G (2 * j)) (G (2 * j + 1))
theorem ClnTo.keep {w w' : World} {xs ys : List Im} {G : Nat → Nat} {k : Nat} (h : ClnTo w xs ys G k) (hb : ∀ i, i < 2 * k → w'.heap[G i]? = w.heap[G i]?) : ClnTo w' xs ys G k := fun j hj =>
  (h j hj).keep (hb _ (by omega)) (hb _ (by omega))
theorem it_snoc (ys : List Im) (y : Im) (k : Nat) (hk : ys.length = k) (j : Nat) : it (ys ++ [y]) j = if j = k then y else it ys j := by
  unfold it
  rw [List.getD_eq_getElem?_getD, List.getD_eq_getElem?_getD]
  rcases Nat.lt_trichotomy j k with h | h | h
  · rw [List.getElem?_append_left (by omega), if_neg (by omega)]
  · subst h
    rw [List.getElem?_append_right (by omega), hk, if_pos rfl]
    simp
  · rw [List.getElem?_append_right (by omega), if_neg (by omega), hk, List.getElem?_eq_none (by simp; omega), List.getElem?_eq_none (by omega)]
theorem ClnTo.snoc {w : World} {xs ys : List Im} {G : Nat → Nat} {k g1 g2 : Nat} {y : Im} (h : ClnTo w xs ys G k) (hk : ys.length = k) (hy : ClnAt w (it xs k) y g1 g2) : ClnTo w xs (ys ++ [y]) (grow2 G k g1 g2) (k + 1) := fun j hj => by
  rw [it_snoc ys y k hk]
  by_cases e : j = k
  · subst e
    rw [if_pos rfl, grow2_0, grow2_1]
    exact hy
  · rw [if_neg e, grow2_lt (by omega), grow2_lt (by omega)]
    exact h j (by omega)
/-- Two more blocks, in whatever order. -/
theorem Apart.grow' {G : Nat → Nat} {B T T' k g1 g2 : Nat} (h : Apart G B T (2 * k)) (hB : B ≤ T) (h1 : T ≤ g1) (h2 : T ≤ g2) (hne : g1 ≠ g2) (h3 : g1 < T') (h4 : g2 < T') : Apart (grow2 G k g1 g2) B T' (2 * (k + 1)) := by
  have hv : ∀ i, i < 2 * (k + 1) → (i < 2 * k ∧ grow2 G k g1 g2 i = G i) ∨ (i = 2 * k ∧ grow2 G k g1 g2 i = g1) ∨ (i = 2 * k + 1 ∧ grow2 G k g1 g2 i = g2) := fun i hi => by
    rcases Nat.lt_trichotomy i (2 * k) with h | h | h
    · exact .inl ⟨h, grow2_lt h⟩
    · exact .inr (.inl ⟨h, h ▸ grow2_0 G k g1 g2⟩)
    · obtain rfl : i = 2 * k + 1 := by omega
      exact .inr (.inr ⟨rfl, grow2_1 G k g1 g2⟩)
  refine ⟨fun i hi => ?_, fun i hi => ?_, fun i j hij hj => ?_⟩
  · rcases hv i hi with ⟨a, e⟩ | ⟨a, e⟩ | ⟨a, e⟩ <;> rw [e]
    · exact h.lo i a
    · omega
    · omega
  · rcases hv i hi with ⟨a, e⟩ | ⟨a, e⟩ | ⟨a, e⟩ <;> rw [e]
    · have := h.hi i a
      omega
    · omega
    · omega
  · rcases hv j hj with ⟨a, e⟩ | ⟨a, e⟩ | ⟨a, e⟩ <;> rcases hv i (by omega) with ⟨a', e'⟩ | ⟨a', e'⟩ | ⟨a', e'⟩ <;> rw [e, e']
    · exact h.ne i j hij a
    · omega
    · omega
    · have := h.hi i a'
      omega
    · omega
    · omega
    · have := h.hi i a'
      omega
    · exact hne
    · omega
/-- The items without marks; nothing of a list that is not valid. -/
def clnIm (x : Im) : Im := ⟨none, 0, none, 0, x.ns, zer x.ns.length, x.late⟩
noncomputable def clnF (xs : List Im) : List Im := @ite _ (ListOk xs) (Classical.propDecidable _) (xs.map clnIm) []
theorem clnF_yes {xs : List Im} (h : ListOk xs) : clnF xs = xs.map clnIm := by unfold clnF; rw [if_pos h]
theorem clnF_no {xs : List Im} (h : ¬ ListOk xs) : clnF xs = [] := by unfold clnF; rw [if_neg h]
theorem cln_it (xs : List Im) (i : Nat) (hi : i < xs.length) : it (xs.map clnIm) i = clnIm (it xs i) := by
  unfold it
  simp [hi]
/-- What the loop has built is a list of its own. -/
theorem cln_own {S : Nat → Prop} {w : World} {xs ys : List Im} {G : Nat → Nat} {R : Option Addr} {g B : Nat} (hok : ListOk xs) (hy : ys.length = xs.length) (h : ClnTo w xs ys G xs.length) (ha : Apart G B w.heap.size (2 * xs.length)) (hr : Owned (fun i => i = g) w R ys) (hg : ∀ i, i < 2 * xs.length → G i ≠ g) (hs : 0 < ys.length → S g) (hS : ∀ i, B ≤ i → i < w.heap.size → S i) : SameS (clnF xs) ys ∧ ImsOwn S w R g G ys := by
  refine ⟨⟨by rw [clnF_yes hok, List.length_map, hy], fun i hi => ?_⟩, hr, fun i hi => ?_, fun i hi => ?_, fun i hi => hg i (by omega), fun i j h1 h2 => ha.ne i j h1 (by omega), hs, fun i hi => hS _ (ha.lo i (by omega)) (ha.hi i (by omega))⟩
  · rw [clnF_yes hok, List.length_map] at hi
    rw [clnF_yes hok, cln_it xs i hi]
    exact ⟨(h i hi).ns, (h i hi).ms, (h i hi).late⟩
  · have hc := h i (by omega)
    rw [hc.A, hc.ns]
    exact fun _ => ⟨_, 0, rfl, rfl, ha.hi _ (by omega), hc.o1⟩
  · have hc := h i (by omega)
    rw [hc.L, hc.ms]
    exact fun _ => ⟨_, 0, rfl, rfl, ha.hi _ (by omega), hc.o2⟩
theorem im_one (ys : List Im) : ∀ u ∈ ys.flatMap Flat.cells, u.oneCell' = true := fun u hu => by
  obtain ⟨x, _, hx⟩ := List.mem_flatMap.1 hu
  have hx' : u ∈ Im.cs x := hx
  simp [Im.cs] at hx'
  rcases hx' with rfl | rfl | rfl <;> rfl
theorem im_one1 (y : Im) : ∀ u ∈ Im.cs y, u.oneCell' = true := fun u hu => im_one [y] u (List.mem_flatMap.2 ⟨y, by simp, hu⟩)
theorem im_news {W : World} {b : Nat} {y : Im} (h0 : W.cell? ⟨b, 0, none⟩ = some (.slice y.A y.ns.length y.c)) (h1 : W.cell? ⟨b, 1, none⟩ = some (.slice y.L y.ms.length y.d)) (h2 : W.cell? ⟨b, 2, none⟩ = some (.bool y.late)) : ∀ j u, (Im.cs y)[j]? = some u → W.cell? ((⟨b, 0, none⟩ : Addr).add j) = some u := fun j u hj => by
  match j, hj with
  | 0, hj => obtain rfl := Option.some.inj hj; exact h0
  | 1, hj => obtain rfl := Option.some.inj hj; exact h1
  | 2, hj => obtain rfl := Option.some.inj hj; exact h2
theorem own_form {w : World} {B : Nat} {e : TypeId} {v : Value} (ys : List Im) (h : w.ownsRow B e (Flat.sz Im) v ys.length (ys.flatMap Flat.cells)) : ∃ R d g, v = .slice R ys.length d ∧ Owned (fun i => i = g) w R ys ∧ (0 < ys.length → B ≤ g ∧ g < w.heap.size ∧ v.ownBlock = some g) := by
  rcases h.2 with ⟨hv, h0⟩ | ⟨g, cap, cur, rfl, h3, h4, h5⟩
  · exact ⟨none, 0, 0, by rw [hv, h0], fun hp => absurd hp (by omega), fun hp => absurd hp (by omega)⟩
  · have hlt := h.lt g rfl
    exact ⟨some ⟨g, 0, none⟩, cap, g, rfl, fun _ => ⟨g, 0, rfl, rfl, hlt.2, own_of_row ys h⟩, fun _ => ⟨hlt.1, hlt.2, rfl⟩⟩
/-- One item more: what the append leaves. -/
theorem cln_step {w1 wr w2 w3 w4 : World} {xs ys : List Im} {G : Nat → Nat} {k g1 g2 : Nat} {y : Im} {v v1 : Value} {e : TypeId} {ob : Obj}
    (hy : ys.length = k) (hO : wr.ownsRow w1.heap.size e 3 v k (ys.flatMap Flat.cells)) (hC : ClnTo wr xs ys G k) (hA : Apart G w1.heap.size wr.heap.size (2 * k)) (hN : ∀ i, i < 2 * k → v.ownBlock ≠ some (G i)) (hB : Below w1.heap.size w1 wr)
    (hb2 : Below wr.heap.size wr w2) (hq : (wr.heap.size ≤ g1 ∧ wr.heap.size ≤ g2) ∧ g1 ≠ g2 ∧ g1 < w2.heap.size ∧ g2 < w2.heap.size) (h3 : w3 = w2.alloc ob) (hy2 : ClnAt w2 (it xs k) y g1 g2)
    (hgrow : w3.grownBy w4 v.ownBlock) (hat : v1.ownBlock = v.ownBlock ∨ v1.ownBlock = some w3.heap.size) :
    Below w1.heap.size w1 w4 ∧ ClnTo w4 xs (ys ++ [y]) (grow2 G k g1 g2) (k + 1) ∧ Apart (grow2 G k g1 g2) w1.heap.size w4.heap.size (2 * (k + 1)) ∧ (∀ i, i < 2 * (k + 1) → v1.ownBlock ≠ some (grow2 G k g1 g2 i)) := by
  obtain ⟨⟨l1, l2⟩, lne, l3, l4⟩ := hq
  have s3 : w3.heap.size = w2.heap.size + 1 := by rw [h3]; simp
  have b3 : ∀ i, i < w2.heap.size → w3.heap[i]? = w2.heap[i]? := fun i hi => by
    rw [h3]
    exact (below_alloc w2 ob).block i hi
  have hsz := hgrow.size
  have hbs := hB.size
  have hb2s := hb2.size
  have hv : ∀ m, v.ownBlock = some m → m < wr.heap.size := fun m e => (hO.lt m e).2
  have k4 : ∀ i, i < 2 * k → w4.heap[G i]? = wr.heap[G i]? := fun i hi => by
    have h1 := hA.hi i hi
    rw [hgrow.block _ (by omega) (fun q => hN i hi q.symm), b3 _ (by omega)]
    exact hb2.block _ h1
  have kn : ∀ g, wr.heap.size ≤ g → g < w2.heap.size → w4.heap[g]? = w2.heap[g]? := fun g h1 h2 => by
    rw [hgrow.block _ (by omega) (fun q => by have := hv g q.symm; omega), b3 _ h2]
  refine ⟨?_, (hC.keep k4).snoc hy (hy2.keep (kn g1 l1 l3) (kn g2 l2 l4)), hA.grow' hbs l1 l2 lne (by omega) (by omega), fun i hi => ?_⟩
  · have h0 : Below w1.heap.size w1 w3 := by
      rw [h3]
      exact below_next (below_next hB hb2) (below_alloc _ _)
    exact Below.grown h0 hgrow (by omega) (fun m e => (hO.lt m e).1)
  · have hc : (i < 2 * k ∧ grow2 G k g1 g2 i = G i) ∨ (grow2 G k g1 g2 i = g1) ∨ (grow2 G k g1 g2 i = g2) := by
      rcases Nat.lt_trichotomy i (2 * k) with h | h | h
      · exact .inl ⟨h, grow2_lt h⟩
      · exact .inr (.inl (h ▸ grow2_0 G k g1 g2))
      · obtain rfl : i = 2 * k + 1 := by omega
        exact .inr (.inr (grow2_1 G k g1 g2))
    rcases hat with h | h
    · rw [h]
      rcases hc with ⟨h1, h2⟩ | h2 | h2 <;> rw [h2]
      · exact hN i h1
      · exact fun q => by have := hv _ q; omega
      · exact fun q => by have := hv _ q; omega
    · rw [h]
      intro q
      injection q with q
      rcases hc with ⟨h1, h2⟩ | h2 | h2
      · have := hA.hi i h1
        omega
      · omega
      · omega
end Go.Proofs.Ytbhfhjhegcfdkaa
