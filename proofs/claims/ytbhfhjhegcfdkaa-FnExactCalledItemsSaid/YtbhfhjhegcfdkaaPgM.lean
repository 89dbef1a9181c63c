/- A list of items built by a call, each item in blocks of its own; a flag of one item stored. -/
import Derived.Test.YtbhfhjhegcfdkaaItemP
import Derived.Test.YtbhfhjhegcfdkaaItemM
namespace Go.Proofs.Ytbhfhjhegcfdkaa
open Go.ChangeShapes Go.WideShapes Go.ChangeAt Go.RowKit Go.PlainAid
set_option linter.unusedVariables false

/-- The item x, in the blocks g1 and g2. -/
structure CpAt (w : World) (x y : Im) (g1 g2 : Nat) : Prop where
  A : y.A = some ⟨g1, 0, none⟩
  L : y.L = some ⟨g2, 0, none⟩
  ns : y.ns = x.ns
  ms : y.ms = x.ms
  late : y.late = x.late
  o1 : OwnAt w g1 0 x.ns
  o2 : OwnAt w g2 0 x.ms
theorem CpAt.keep {w w' : World} {x y : Im} {g1 g2 : Nat} (h : CpAt w x y g1 g2) (h1 : w'.heap[g1]? = w.heap[g1]?) (h2 : w'.heap[g2]? = w.heap[g2]?) : CpAt w' x y g1 g2 :=
  ⟨h.A, h.L, h.ns, h.ms, h.late, h.o1.block h1, h.o2.block h2⟩
def CpTo (w : World) (xs ys : List Im) (G : Nat → Nat) (k : Nat) : Prop := ∀ j, j < k → CpAt w (it xs j) (it ys j) (G (2 * j)) (G (2 * j + 1))
theorem CpTo.zero (w : World) (xs ys : List Im) (G : Nat → Nat) : CpTo w xs ys G 0 := fun j hj => absurd hj (by omega)
theorem CpTo.keep {w w' : World} {xs ys : List Im} {G : Nat → Nat} {k : Nat} (h : CpTo w xs ys G k) (hb : ∀ i, i < 2 * k → w'.heap[G i]? = w.heap[G i]?) : CpTo w' xs ys G k := fun j hj =>
  (h j hj).keep (hb _ (by omega)) (hb _ (by omega))
theorem CpTo.snoc {w : World} {xs ys : List Im} {G : Nat → Nat} {k g1 g2 : Nat} {y : Im} (h : CpTo w xs ys G k) (hk : ys.length = k) (hy : CpAt w (it xs k) y g1 g2) : CpTo w xs (ys ++ [y]) (grow2 G k g1 g2) (k + 1) := fun j hj => by
  rw [it_snoc ys y k hk]
  by_cases e : j = k
  · subst e
    rw [if_pos rfl, grow2_0, grow2_1]
    exact hy
  · rw [if_neg e, grow2_lt (by omega), grow2_lt (by omega)]
    exact h j (by omega)
theorem CpTo.set {w : World} {xs ys : List Im} {G : Nat → Nat} {k g1 g2 : Nat} {y : Im} (h : CpTo w xs ys G k) (hk : k < ys.length) (hy : CpAt w (it xs k) y g1 g2) : CpTo w xs (ys.set k y) (grow2 G k g1 g2) (k + 1) := fun j hj => by
  rw [it_set _ _ _ _ hk]
  by_cases e : j = k
  · subst e
    rw [if_pos rfl, grow2_0, grow2_1]
    exact hy
  · rw [if_neg e, grow2_lt (by omega), grow2_lt (by omega)]
    exact h j (by omega)
/-- What a loop has built is a list of its own, the same as the one aimed at. -/
theorem cp_own {S : Nat → Prop} {w : World} {xs ys : List Im} {G : Nat → Nat} {R : Option Addr} {g B : Nat} (hy : ys.length = xs.length) (h : CpTo w xs ys G xs.length) (ha : Apart G B w.heap.size (2 * xs.length)) (hr : Owned (fun i => i = g) w R ys) (hg : ∀ i, i < 2 * xs.length → G i ≠ g) (hs : 0 < ys.length → S g) (hS : ∀ i, B ≤ i → i < w.heap.size → S i) : SameS xs ys ∧ ImsOwn S w R g G ys := by
  refine ⟨⟨hy, fun i hi => ⟨(h i hi).ns, (h i hi).ms, (h i hi).late⟩⟩, hr, fun i hi => ?_, fun i hi => ?_, fun i hi => hg i (by omega), fun i j h1 h2 => ha.ne i j h1 (by omega), hs, fun i hi => hS _ (ha.lo i (by omega)) (ha.hi i (by omega))⟩
  · have hc := h i (by omega)
    rw [hc.A, hc.ns]
    exact fun _ => ⟨_, 0, rfl, rfl, ha.hi _ (by omega), hc.o1⟩
  · have hc := h i (by omega)
    rw [hc.L, hc.ms]
    exact fun _ => ⟨_, 0, rfl, rfl, ha.hi _ (by omega), hc.o2⟩
/-- One item more: what the append leaves. -/
theorem cp_step {w1 wr w2 w3 w4 : World} {xs ys : List Im} {G : Nat → Nat} {k g1 g2 : Nat} {y : Im} {v v1 : Value} {e : TypeId} {ob : Obj}
    (hy : ys.length = k) (hO : wr.ownsRow w1.heap.size e 3 v k (ys.flatMap Flat.cells)) (hC : CpTo wr xs ys G k) (hA : Apart G w1.heap.size wr.heap.size (2 * k)) (hN : ∀ i, i < 2 * k → v.ownBlock ≠ some (G i)) (hB : Below w1.heap.size w1 wr)
    (hb2 : Below wr.heap.size wr w2) (hq : (wr.heap.size ≤ g1 ∧ wr.heap.size ≤ g2) ∧ g1 ≠ g2 ∧ g1 < w2.heap.size ∧ g2 < w2.heap.size) (h3 : w3 = w2.alloc ob) (hy2 : CpAt w2 (it xs k) y g1 g2)
    (hgrow : w3.grownBy w4 v.ownBlock) (hat : v1.ownBlock = v.ownBlock ∨ v1.ownBlock = some w3.heap.size) :
    Below w1.heap.size w1 w4 ∧ CpTo w4 xs (ys ++ [y]) (grow2 G k g1 g2) (k + 1) ∧ Apart (grow2 G k g1 g2) w1.heap.size w4.heap.size (2 * (k + 1)) ∧ (∀ i, i < 2 * (k + 1) → v1.ownBlock ≠ some (grow2 G k g1 g2 i)) := by
  obtain ⟨⟨l1, l2⟩, lne, l3, l4⟩ := hq
  have s3 : w3.heap.size = w2.heap.size + 1 := by rw [h3]; simp
  have b3 : ∀ i, i < w2.heap.size → w3.heap[i]? = w2.heap[i]? := fun i hi => by
    rw [h3]
    exact (below_alloc w2 ob).block i hi
  have hsz := hgrow.size
  have hbs := hB.size
  have hb2s := hb2.size
  have hv : ∀ m, v.ownBlock = some m → m < wr.heap.size := fun m e => (hO.lt m e).2
  have k4 : ∀ i, i < 2 * k → w4.heap[G i]? = wr.heap[G i]? := fun i hi => by
    have h1 := hA.hi i hi
    rw [hgrow.block _ (by omega) (fun q => hN i hi q.symm), b3 _ (by omega)]
    exact hb2.block _ h1
  have kn : ∀ g, wr.heap.size ≤ g → g < w2.heap.size → w4.heap[g]? = w2.heap[g]? := fun g h1 h2 => by
    rw [hgrow.block _ (by omega) (fun q => by have := hv g q.symm; omega), b3 _ h2]
  refine ⟨?_, (hC.keep k4).snoc hy (hy2.keep (kn g1 l1 l3) (kn g2 l2 l4)), hA.grow' hbs l1 l2 lne (by omega) (by omega), fun i hi => ?_⟩
  · have h0 : Below w1.heap.size w1 w3 := by
      rw [h3]
      exact below_next (below_next hB hb2) (below_alloc _ _)
    exact Below.grown h0 hgrow (by omega) (fun m e => (hO.lt m e).1)
  · have hc : (i < 2 * k ∧ grow2 G k g1 g2 i = G i) ∨ (grow2 G k g1 g2 i = g1) ∨ (grow2 G k g1 g2 i = g2) := by
      rcases Nat.lt_trichotomy i (2 * k) with h | h | h
      · exact .inl ⟨h, grow2_lt h⟩
      · exact .inr (.inl (h ▸ grow2_0 G k g1 g2))
      · obtain rfl : i = 2 * k + 1 := by omega
        exact .inr (.inr (grow2_1 G k g1 g2))
    rcases hat with h | h
    · rw [h]
      rcases hc with ⟨h1, h2⟩ | h2 | h2 <;> rw [h2]
      · exact hN i h1
      · exact fun q => by have := hv _ q; omega
      · exact fun q => by have := hv _ q; omega
    · rw [h]
      intro q
      injection q with q
      rcases hc with ⟨h1, h2⟩ | h2 | h2
      · have := hA.hi i h1
        omega
      · omega
      · omega
/-- One item stored: what is known then. -/
theorem cp_set {w1 wr w3 : World} {xs ys : List Im} {G : Nat → Nat} {k g1 g2 : Nat} {y : Im}
    (hC : CpTo wr xs ys G k) (hO : OwnAt w3 w1.heap.size 0 ys) (hA : Apart G (w1.heap.size + 1) wr.heap.size (2 * k)) (hs : w1.heap.size < wr.heap.size) (hb3 : Below wr.heap.size wr w3) (hB : Below w1.heap.size w1 wr) (hk : k < ys.length)
    (hq : wr.heap.size + 1 ≤ g1 ∧ wr.heap.size + 1 ≤ g2 ∧ g1 ≠ g2 ∧ g1 < w3.heap.size ∧ g2 < w3.heap.size) (hy : CpAt w3 (it xs k) y g1 g2) :
    CpTo (putAt w1.heap.size (k * 3) w3 0 (Flat.cells y)) xs (ys.set k y) (grow2 G k g1 g2) (k + 1) ∧ OwnAt (putAt w1.heap.size (k * 3) w3 0 (Flat.cells y)) w1.heap.size 0 (ys.set k y) ∧ Apart (grow2 G k g1 g2) (w1.heap.size + 1) (putAt w1.heap.size (k * 3) w3 0 (Flat.cells y)).heap.size (2 * (k + 1)) ∧ w1.heap.size < (putAt w1.heap.size (k * 3) w3 0 (Flat.cells y)).heap.size ∧ Below w1.heap.size w1 (putAt w1.heap.size (k * 3) w3 0 (Flat.cells y)) := by
  obtain ⟨l1, l2, lne, l3, l4⟩ := hq
  have hsz := putAt_size w1.heap.size (k * 3) (Flat.cells y) w3 0
  have hk3 := putAt_only (S := fun i => i = w1.heap.size) rfl (k * 3) (Flat.cells y) w3 w3 0 (Only.refl _ _)
  have hbs := hb3.size
  have k4 : ∀ i, i < 2 * k → (putAt w1.heap.size (k * 3) w3 0 (Flat.cells y)).heap[G i]? = wr.heap[G i]? := fun i hi => by
    have h1 := hA.hi i hi
    have h2 := hA.lo i hi
    rw [hk3.block _ (by omega) (by omega)]
    exact hb3.block _ h1
  have hp := hO.put k y hk
  rw [show 0 + k * Flat.sz Im = k * 3 from Nat.zero_add _] at hp
  refine ⟨(hC.keep k4).set hk (hy.keep (hk3.block _ l3 (by omega)) (hk3.block _ l4 (by omega))), hp, hA.grow' (by omega) (by omega) (by omega) lne (by omega) (by omega), by omega, ?_⟩
  exact (below_next hB hb3).trans (hk3.below (by omega) (fun i e => Nat.le_of_eq e.symm))
/-- The flag of an item stored. -/
theorem ImsOwn.setLate {S : Nat → Prop} {w : World} {g o : Nat} {G : Nat → Nat} {ys : List Im} (h : ImsOwn S w (some ⟨g, o, none⟩) g G ys) (j : Nat) (hj : j < ys.length) (b : Bool) :
    ImsOwn S (w.setCell ⟨g, o + j * 3 + 2, none⟩ (.bool b)) (some ⟨g, o, none⟩) g G (ys.set j { it ys j with late := b }) :=
  h.mark j hj { it ys j with late := b } rfl rfl rfl rfl rfl rfl (h.ns j hj) (Only.refl _ _) (h.ms j hj) (Only.refl _ _)
/-- The list with its second half late. -/
def lateIm (n : Nat) (i : Nat) (x : Im) : Im := { x with late := decide (n ≤ 2 * i) }
def lateTo (xs : List Im) (k : Nat) : List Im := xs.mapIdx fun i x => if i < k then lateIm xs.length i x else x
def lateS (xs : List Im) : List Im := xs.mapIdx fun i x => lateIm xs.length i x
theorem it_mapIdx {f : Nat → Im → Im} (xs : List Im) (i : Nat) (hi : i < xs.length) : it (xs.mapIdx f) i = f i (it xs i) := by
  unfold it
  simp [List.getD_eq_getElem?_getD, hi]
theorem lateS_len (xs : List Im) : (lateS xs).length = xs.length := by simp [lateS]
theorem lateS_it (xs : List Im) (i : Nat) (hi : i < xs.length) : it (lateS xs) i = lateIm xs.length i (it xs i) := it_mapIdx xs i hi
theorem lateS_same {xs ys : List Im} (h : SameS xs ys) : SameS (lateS xs) (lateS ys) := by
  refine ⟨by rw [lateS_len, lateS_len, h.len], fun i hi => ?_⟩
  rw [lateS_len] at hi
  have he := h.each i hi
  rw [lateS_it xs i hi, lateS_it ys i (by have := h.len; omega)]
  exact ⟨he.ns, he.ms, by unfold lateIm; rw [h.len]⟩
/-- Valid items, one more than a list may have at most. -/
structure Near (xs : List Im) : Prop where
  len : xs.length ≤ 15
  each : ∀ i, i < xs.length → ItOk (it xs i).ns (it xs i).ms
theorem ListOk.near {xs : List Im} (h : ListOk xs) : Near xs := ⟨by have := h.len; omega, h.each⟩
theorem lateS_ok {xs : List Im} : ListOk (lateS xs) ↔ ListOk xs := by
  constructor
  · intro h
    refine ⟨by have := h.len; rw [lateS_len] at this; exact this, fun i hi => ?_⟩
    have := h.each i (by rw [lateS_len]; exact hi)
    rw [lateS_it xs i hi] at this
    exact this
  · intro h
    refine ⟨by rw [lateS_len]; exact h.len, fun i hi => ?_⟩
    rw [lateS_len] at hi
    rw [lateS_it xs i hi]
    exact h.each i hi
/-- The answer of MarkLate. -/
noncomputable def mlF (xs : List Im) : List Im := @ite _ (ListOk xs) (Classical.propDecidable _) (lateS xs) []
theorem mlF_yes {xs : List Im} (h : ListOk xs) : mlF xs = lateS xs := by unfold mlF; rw [if_pos h]
theorem mlF_no {xs : List Im} (h : ¬ ListOk xs) : mlF xs = [] := by unfold mlF; rw [if_neg h]
theorem mlF_same {xs ys : List Im} (h : SameS xs ys) : SameS (mlF xs) (mlF ys) := by
  by_cases k : ListOk xs
  · rw [mlF_yes k, mlF_yes (k.same h)]
    exact lateS_same h
  · rw [mlF_no k, mlF_no (fun q => k (q.same h.symm))]
    exact SameS.refl _
theorem lateS_fits {xs : List Im} (h : ImsFits xs) : ImsFits (lateS xs) := ⟨by rw [lateS_len]; exact h.len, fun i hi => by
  rw [lateS_len] at hi
  rw [lateS_it xs i hi]
  exact ⟨(h.each i hi).ns, (h.each i hi).ms⟩⟩
theorem mlF_fits {xs : List Im} (h : ImsFits xs) : ImsFits (mlF xs) := by
  by_cases k : ListOk xs
  · rw [mlF_yes k]
    exact lateS_fits h
  · rw [mlF_no k]
    exact ⟨by simp, fun i hi => absurd hi (by simp)⟩
end Go.Proofs.Ytbhfhjhegcfdkaa
