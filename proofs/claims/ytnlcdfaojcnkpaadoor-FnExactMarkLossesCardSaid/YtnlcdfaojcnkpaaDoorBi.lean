/- A list of items built by a call, each item in blocks of its own; a flag of one item stored. MarkLate in the model: a copy of the list, then its flags stored. MarkLate in the model: the flags stored. A copy of a list of items, in the program. MarkLate of the program: a copy of the list, its flags stored one by one. MarkLate of the program (HiMl), under its older name. -/
import Derived.Test.YtnlcdfaojcnkpaaDoorBe
import Derived.Test.YtnlcdfaojcnkpaaDoorBd
import Derived.Test.YtnlcdfaojcnkpaaDoorPgB
import Derived.Deep.RegionHeld3
import Derived.Test.YtnlcdfaojcnkpaaDoorShelf
namespace Go.Proofs.YtnlcdfaojcnkpaaDoor
open Go.ChangeShapes Go.WideShapes Go.ChangeAt Go.RowKit Go.PlainAid
set_option linter.unusedVariables false

/-- The item x, in the blocks g1 and g2. -/
structure CpAt (w : World) (x y : Im) (g1 g2 : Nat) : Prop where
  A : y.A = some ⟨g1, 0, none⟩
  L : y.L = some ⟨g2, 0, none⟩
  ns : y.ns = x.ns
  ms : y.ms = x.ms
  late : y.late = x.late
  o1 : OwnAt w g1 0 x.ns
  o2 : OwnAt w g2 0 x.ms
theorem CpAt.keep {w w' : World} {x y : Im} {g1 g2 : Nat} (h : CpAt w x y g1 g2) (h1 : w'.heap[g1]? = w.heap[g1]?) (h2 : w'.heap[g2]? = w.heap[g2]?) : CpAt w' x y g1 g2 :=
  ⟨h.A, h.L, h.ns, h.ms, h.late, h.o1.block h1, h.o2.block h2⟩
def CpTo (w : World) (xs ys : List Im) (G : Nat → Nat) (k : Nat) : Prop := ∀ j, j < k → CpAt w (it xs j) (it ys j) (G (2 * j)) (G (2 * j + 1))
theorem CpTo.zero (w : World) (xs ys : List Im) (G : Nat → Nat) : CpTo w xs ys G 0 := fun j hj => absurd hj (by omega)
theorem CpTo.keep {w w' : World} {xs ys : List Im} {G : Nat → Nat} {k : Nat} (h : CpTo w xs ys G k) (hb : ∀ i, i < 2 * k → w'.heap[G i]? = w.heap[G i]?) : CpTo w' xs ys G k := fun j hj =>
  (h j hj).keep (hb _ (by omega)) (hb _ (by omega))
theorem CpTo.snoc {w : World} {xs ys : List Im} {G : Nat → Nat} {k g1 g2 : Nat} {y : Im} (h : CpTo w xs ys G k) (hk : ys.length = k) (hy : CpAt w (it xs k) y g1 g2) : CpTo w xs (ys ++ [y]) (grow2 G k g1 g2) (k + 1) := fun j hj => by
  rw [it_snoc ys y k hk]
  by_cases e : j = k
  · subst e
    rw [if_pos rfl, grow2_0, grow2_1]
    exact hy
  · rw [if_neg e, grow2_lt (by omega), grow2_lt (by omega)]
    exact h j (by omega)
theorem CpTo.set {w : World} {xs ys : List Im} {G : Nat → Nat} {k g1 g2 : Nat} {y : Im} (h : CpTo w xs ys G k) (hk : k < ys.length) (hy : CpAt w (it xs k) y g1 g2) : CpTo w xs (ys.set k y) (grow2 G k g1 g2) (k + 1) := fun j hj => by
  rw [it_set _ _ _ _ hk]
  by_cases e : j = k
  · subst e
    rw [if_pos rfl, grow2_0, grow2_1]
    exact hy
  · rw [if_neg e, grow2_lt (by omega), grow2_lt (by omega)]
    exact h j (by omega)
/-- What a loop has built is a list of its own, the same as the one aimed at. -/
theorem cp_own {S : Nat → Prop} {w : World} {xs ys : List Im} {G : Nat → Nat} {R : Option Addr} {g B : Nat} (hy : ys.length = xs.length) (h : CpTo w xs ys G xs.length) (ha : Apart G B w.heap.size (2 * xs.length)) (hr : Owned (fun i => i = g) w R ys) (hg : ∀ i, i < 2 * xs.length → G i ≠ g) (hs : 0 < ys.length → S g) (hS : ∀ i, B ≤ i → i < w.heap.size → S i) : SameS xs ys ∧ ImsOwn S w R g G ys := by
  refine ⟨⟨hy, fun i hi => ⟨(h i hi).ns, (h i hi).ms, (h i hi).late⟩⟩, hr, fun i hi => ?_, fun i hi => ?_, fun i hi => hg i (by omega), fun i j h1 h2 => ha.ne i j h1 (by omega), hs, fun i hi => hS _ (ha.lo i (by omega)) (ha.hi i (by omega))⟩
  · have hc := h i (by omega)
    rw [hc.A, hc.ns]
    exact fun _ => ⟨_, 0, rfl, rfl, ha.hi _ (by omega), hc.o1⟩
  · have hc := h i (by omega)
    rw [hc.L, hc.ms]
    exact fun _ => ⟨_, 0, rfl, rfl, ha.hi _ (by omega), hc.o2⟩
/-- One item more: what the append leaves. -/
theorem cp_step {w1 wr w2 w3 w4 : World} {xs ys : List Im} {G : Nat → Nat} {k g1 g2 : Nat} {y : Im} {v v1 : Value} {e : TypeId} {ob : Obj}
    (hy : ys.length = k) (hO : wr.ownsRow w1.heap.size e 3 v k (ys.flatMap Flat.cells)) (hC : CpTo wr xs ys G k) (hA : Apart G w1.heap.size wr.heap.size (2 * k)) (hN : ∀ i, i < 2 * k → v.ownBlock ≠ some (G i)) (hB : Below w1.heap.size w1 wr)
    (hb2 : Below wr.heap.size wr w2) (hq : (wr.heap.size ≤ g1 ∧ wr.heap.size ≤ g2) ∧ g1 ≠ g2 ∧ g1 < w2.heap.size ∧ g2 < w2.heap.size) (h3 : w3 = w2.alloc ob) (hy2 : CpAt w2 (it xs k) y g1 g2)
    (hgrow : w3.grownBy w4 v.ownBlock) (hat : v1.ownBlock = v.ownBlock ∨ v1.ownBlock = some w3.heap.size) :
    Below w1.heap.size w1 w4 ∧ CpTo w4 xs (ys ++ [y]) (grow2 G k g1 g2) (k + 1) ∧ Apart (grow2 G k g1 g2) w1.heap.size w4.heap.size (2 * (k + 1)) ∧ (∀ i, i < 2 * (k + 1) → v1.ownBlock ≠ some (grow2 G k g1 g2 i)) := by
  obtain ⟨⟨l1, l2⟩, lne, l3, l4⟩ := hq
  have s3 : w3.heap.size = w2.heap.size + 1 := by rw [h3]; simp
  have b3 : ∀ i, i < w2.heap.size → w3.heap[i]? = w2.heap[i]? := fun i hi => by
    rw [h3]
    exact (below_alloc w2 ob).block i hi
  have hsz := hgrow.size
  have hbs := hB.size
  have hb2s := hb2.size
  have hv : ∀ m, v.ownBlock = some m → m < wr.heap.size := fun m e => (hO.lt m e).2
  have k4 : ∀ i, i < 2 * k → w4.heap[G i]? = wr.heap[G i]? := fun i hi => by
    have h1 := hA.hi i hi
    rw [hgrow.block _ (by omega) (fun q => hN i hi q.symm), b3 _ (by omega)]
    exact hb2.block _ h1
  have kn : ∀ g, wr.heap.size ≤ g → g < w2.heap.size → w4.heap[g]? = w2.heap[g]? := fun g h1 h2 => by
    rw [hgrow.block _ (by omega) (fun q => by have := hv g q.symm; omega), b3 _ h2]
  refine ⟨?_, (hC.keep k4).snoc hy (hy2.keep (kn g1 l1 l3) (kn g2 l2 l4)), hA.grow' hbs l1 l2 lne (by omega) (by omega), fun i hi => ?_⟩
  · have h0 : Below w1.heap.size w1 w3 := by
      rw [h3]
      exact below_next (below_next hB hb2) (below_alloc _ _)
    exact Below.grown h0 hgrow (by omega) (fun m e => (hO.lt m e).1)
  · have hc : (i < 2 * k ∧ grow2 G k g1 g2 i = G i) ∨ (grow2 G k g1 g2 i = g1) ∨ (grow2 G k g1 g2 i = g2) := by
      rcases Nat.lt_trichotomy i (2 * k) with h | h | h
      · exact .inl ⟨h, grow2_lt h⟩
      · exact .inr (.inl (h ▸ grow2_0 G k g1 g2))
      · obtain rfl : i = 2 * k + 1 := by omega
        exact .inr (.inr (grow2_1 G k g1 g2))
    rcases hat with h | h
    · rw [h]
      rcases hc with ⟨h1, h2⟩ | h2 | h2 <;> rw [h2]
      · exact hN i h1
      · exact fun q => by have := hv _ q; omega
      · exact fun q => by have := hv _ q; omega
    · rw [h]
      intro q
      injection q with q
      rcases hc with ⟨h1, h2⟩ | h2 | h2
      · have := hA.hi i h1
        omega
      · omega
      · omega
/-- One item stored: what is known then. -/
theorem cp_set {w1 wr w3 : World} {xs ys : List Im} {G : Nat → Nat} {k g1 g2 : Nat} {y : Im}
    (hC : CpTo wr xs ys G k) (hO : OwnAt w3 w1.heap.size 0 ys) (hA : Apart G (w1.heap.size + 1) wr.heap.size (2 * k)) (hs : w1.heap.size < wr.heap.size) (hb3 : Below wr.heap.size wr w3) (hB : Below w1.heap.size w1 wr) (hk : k < ys.length)
    (hq : wr.heap.size + 1 ≤ g1 ∧ wr.heap.size + 1 ≤ g2 ∧ g1 ≠ g2 ∧ g1 < w3.heap.size ∧ g2 < w3.heap.size) (hy : CpAt w3 (it xs k) y g1 g2) :
    CpTo (putAt w1.heap.size (k * 3) w3 0 (Flat.cells y)) xs (ys.set k y) (grow2 G k g1 g2) (k + 1) ∧ OwnAt (putAt w1.heap.size (k * 3) w3 0 (Flat.cells y)) w1.heap.size 0 (ys.set k y) ∧ Apart (grow2 G k g1 g2) (w1.heap.size + 1) (putAt w1.heap.size (k * 3) w3 0 (Flat.cells y)).heap.size (2 * (k + 1)) ∧ w1.heap.size < (putAt w1.heap.size (k * 3) w3 0 (Flat.cells y)).heap.size ∧ Below w1.heap.size w1 (putAt w1.heap.size (k * 3) w3 0 (Flat.cells y)) := by
  obtain ⟨l1, l2, lne, l3, l4⟩ := hq
  have hsz := putAt_size w1.heap.size (k * 3) (Flat.cells y) w3 0
  have hk3 := putAt_only (S := fun i => i = w1.heap.size) rfl (k * 3) (Flat.cells y) w3 w3 0 (Only.refl _ _)
  have hbs := hb3.size
  have k4 : ∀ i, i < 2 * k → (putAt w1.heap.size (k * 3) w3 0 (Flat.cells y)).heap[G i]? = wr.heap[G i]? := fun i hi => by
    have h1 := hA.hi i hi
    have h2 := hA.lo i hi
    rw [hk3.block _ (by omega) (by omega)]
    exact hb3.block _ h1
  have hp := hO.put k y hk
  rw [show 0 + k * Flat.sz Im = k * 3 from Nat.zero_add _] at hp
  refine ⟨(hC.keep k4).set hk (hy.keep (hk3.block _ l3 (by omega)) (hk3.block _ l4 (by omega))), hp, hA.grow' (by omega) (by omega) (by omega) lne (by omega) (by omega), by omega, ?_⟩
  exact (below_next hB hb3).trans (hk3.below (by omega) (fun i e => Nat.le_of_eq e.symm))
/-- The flag of an item stored. -/
theorem ImsOwn.setLate {S : Nat → Prop} {w : World} {g o : Nat} {G : Nat → Nat} {ys : List Im} (h : ImsOwn S w (some ⟨g, o, none⟩) g G ys) (j : Nat) (hj : j < ys.length) (b : Bool) :
    ImsOwn S (w.setCell ⟨g, o + j * 3 + 2, none⟩ (.bool b)) (some ⟨g, o, none⟩) g G (ys.set j { it ys j with late := b }) :=
  h.mark j hj { it ys j with late := b } rfl rfl rfl rfl rfl rfl (h.ns j hj) (Only.refl _ _) (h.ms j hj) (Only.refl _ _)
/-- The list with its second half late. -/
def lateIm (n : Nat) (i : Nat) (x : Im) : Im := { x with late := decide (n ≤ 2 * i) }
def lateTo (xs : List Im) (k : Nat) : List Im := xs.mapIdx fun i x => if i < k then lateIm xs.length i x else x
def lateS (xs : List Im) : List Im := xs.mapIdx fun i x => lateIm xs.length i x
theorem it_mapIdx {f : Nat → Im → Im} (xs : List Im) (i : Nat) (hi : i < xs.length) : it (xs.mapIdx f) i = f i (it xs i) := by
  unfold it
  simp [List.getD_eq_getElem?_getD, hi]
theorem lateS_len (xs : List Im) : (lateS xs).length = xs.length := by simp [lateS]
theorem lateS_it (xs : List Im) (i : Nat) (hi : i < xs.length) : it (lateS xs) i = lateIm xs.length i (it xs i) := it_mapIdx xs i hi
theorem lateS_same {xs ys : List Im} (h : SameS xs ys) : SameS (lateS xs) (lateS ys) := by
  refine ⟨by rw [lateS_len, lateS_len, h.len], fun i hi => ?_⟩
  rw [lateS_len] at hi
  have he := h.each i hi
  rw [lateS_it xs i hi, lateS_it ys i (by have := h.len; omega)]
  exact ⟨he.ns, he.ms, by unfold lateIm; rw [h.len]⟩
/-- Valid items, one more than a list may have at most. -/
structure Near (xs : List Im) : Prop where
  len : xs.length ≤ 15
  each : ∀ i, i < xs.length → ItOk (it xs i).ns (it xs i).ms
theorem ListOk.near {xs : List Im} (h : ListOk xs) : Near xs := ⟨by have := h.len; omega, h.each⟩
theorem lateS_ok {xs : List Im} : ListOk (lateS xs) ↔ ListOk xs := by
  constructor
  · intro h
    refine ⟨by have := h.len; rw [lateS_len] at this; exact this, fun i hi => ?_⟩
    have := h.each i (by rw [lateS_len]; exact hi)
    rw [lateS_it xs i hi] at this
    exact this
  · intro h
    refine ⟨by rw [lateS_len]; exact h.len, fun i hi => ?_⟩
    rw [lateS_len] at hi
    rw [lateS_it xs i hi]
    exact h.each i hi
/-- The answer of MarkLate. -/
noncomputable def mlF (xs : List Im) : List Im := @ite _ (ListOk xs) (Classical.propDecidable _) (lateS xs) []
theorem mlF_yes {xs : List Im} (h : ListOk xs) : mlF xs = lateS xs := by unfold mlF; rw [if_pos h]
theorem mlF_no {xs : List Im} (h : ¬ ListOk xs) : mlF xs = [] := by unfold mlF; rw [if_neg h]
theorem mlF_same {xs ys : List Im} (h : SameS xs ys) : SameS (mlF xs) (mlF ys) := by
  by_cases k : ListOk xs
  · rw [mlF_yes k, mlF_yes (k.same h)]
    exact lateS_same h
  · rw [mlF_no k, mlF_no (fun q => k (q.same h.symm))]
    exact SameS.refl _
theorem lateS_fits {xs : List Im} (h : ImsFits xs) : ImsFits (lateS xs) := ⟨by rw [lateS_len]; exact h.len, fun i hi => by
  rw [lateS_len] at hi
  rw [lateS_it xs i hi]
  exact ⟨(h.each i hi).ns, (h.each i hi).ms⟩⟩
theorem mlF_fits {xs : List Im} (h : ImsFits xs) : ImsFits (mlF xs) := by
  by_cases k : ListOk xs
  · rw [mlF_yes k]
    exact lateS_fits h
  · rw [mlF_no k]
    exact ⟨by simp, fun i hi => absurd hi (by simp)⟩
end Go.Proofs.YtnlcdfaojcnkpaaDoor

namespace Go.Proofs.YtnlcdfaojcnkpaaDoor
open Go.ChangeShapes Go.WideShapes Go.ChangeAt Go.RowKit Go.PlainAid
set_option linter.unusedVariables false

theorem lst_src {w W : World} {B : Nat} {A : Option Addr} {xs : List Int} (h : Lst w B A xs) (hb : Below B w W) : 0 < xs.length → ∃ ad, A = some ad ∧ ∀ j u, (xs.map (Value.int .i64))[j]? = some u → W.cell? (ad.add j) = some u := fun hp => by
  obtain ⟨b, o, rfl, hbl, hc⟩ := h.int hp
  refine ⟨_, rfl, fun j u hj => ?_⟩
  have hj' : j < xs.length := by
    have := (List.getElem?_eq_some_iff.1 hj).1
    simpa using this
  rw [List.getElem?_map, it_get xs j hj'] at hj
  have hu : Value.int .i64 (it xs j) = u := by simpa using hj
  rw [← hu]
  have hadd : (⟨b, o, none⟩ : Addr).add j = ⟨b, o + j, none⟩ := by
    unfold Addr.add
    by_cases e : j = 0 <;> simp [e]
  rw [hadd]
  exact (hb.cell (p := ⟨b, o + j, none⟩) hbl).trans (hc j hj')
theorem int_one (xs : List Int) : ∀ u ∈ xs.map (Value.int .i64), u.oneCell' = true := fun u hu => by
  obtain ⟨x, _, rfl⟩ := List.mem_map.1 hu
  rfl
theorem l1Own_any (A : Option Addr) (c : Nat) (l : List Int) (w : World) (hr : Lst w w.heap.size A l) (hl : l.length ≤ 1048576) (hp : 0 < l.length) :
    Calls Tryd.prog 168 #[.slice A l.length c] w fun e w' => ∃ g cap, e = .returned (.slice (some ⟨g, 0, none⟩) l.length cap) ∧ OwnAt w' g 0 l ∧ w.heap.size ≤ g ∧ g < w'.heap.size ∧ Below w.heap.size w w' := by
  obtain ⟨i0, hi, hz0, hz1, hz2⟩ := info_parts Tryd.infoInt
  have HZ := Lib.hid (And.intro hi (And.intro hz0 (And.intro hz1 hz2)))
  have HR := Lib.hid hr
  clear hi hz0 hz1 hz2 hr
  go_enter Tryd.func168, Tryd.ntmps168
  go_wp2_with (at_builtin; refine wpList_append_src _ rfl (.tmp 3) (.tmp 4) 23 rfl w.heap.size 3 i0 (.int .i64 0) 8 Tryd.underlying23 HZ.out.1 HZ.out.2.1 HZ.out.2.2.1 HZ.out.2.2.2 rfl (.slice (some ⟨w.heap.size, 0, none⟩) 0 0) 0 [] rfl (owns_emptyN _ _ _ _ _ (Nat.le_refl _) (heap_at_new _ _ _ rfl)) A l.length c (l.map (Value.int .i64)) rfl (by simp) (lst_src HR.out (below_alloc _ _)) (int_one l) (by unfold maxLen; omega) (by omega) (by simp) ?_; intro v1 w1 hown1 hgrow1 hat1; have HOWN1 := Lib.hid hown1; have HG1 := Lib.hid hgrow1; clear hown1 hgrow1 hat1)
  go_ret
  have ho : w1.ownsRow w.heap.size 3 1 v1 l.length (l.map (Value.int .i64)) := by
    have := HOWN1.out
    rwa [Nat.zero_add, List.nil_append] at this
  obtain ⟨g, cap, rfl, h1, h2⟩ := row_pos ho hp
  refine ⟨g, cap, rfl, own_of_row (α := Int) (cap := cap) (e := 3) (base := w.heap.size) l ?_, h1, h2, ?_⟩
  · rw [flatMap_int]
    exact ho
  · exact Below.grown (below_alloc _ _) HG1.out (by simp) (fun kk e => by simp [Value.ownBlock] at e; omega)
theorem imBox_grown {w3 w4 : World} {b : Nat} {x : Im} {q : Option Nat} (h : ImBox w3 b x) (hg : w3.grownBy w4 q) (hne : ∀ m, q = some m → m < b) : ImBox w4 b x := by
  have hb := hg.block b h.lt (fun e => by have := hne b e.symm; omega)
  exact ⟨Nat.lt_of_lt_of_le h.lt hg.size, (World.cell?_of_block (a := ⟨b, 0, none⟩) hb).trans h.c0, (World.cell?_of_block (a := ⟨b, 1, none⟩) hb).trans h.c1, (World.cell?_of_block (a := ⟨b, 2, none⟩) hb).trans h.c2⟩
theorem imBox_alloc {w : World} {b : Nat} {x : Im} (h : ImBox w b x) (o : Obj) : ImBox (w.alloc o) b x := h.next (below_alloc w o)

set_option maxRecDepth 20000 in
set_option maxHeartbeats 2000000 in
theorem itOwn_cap (P : Option Addr) (c : Nat) (xs : List Im) (w : World) (hr : Ims w w.heap.size P xs) (hok : Near xs) :
    Calls Tryd.prog 150 #[.slice P xs.length c] w fun e w' => (∃ R d ys g G, e = .returned (.slice R ys.length d) ∧ (ys.length ≤ d ∧ d ≤ 9223372036854775807) ∧ SameS xs ys ∧ ImsOwn (fun i => w.heap.size ≤ i ∧ i < w'.heap.size) w' R g G ys) ∧ Below w.heap.size w w' := by
  obtain ⟨i0, hi, hz0, hz1, hz2⟩ := info_parts Tryd.infoIm
  have HZ := Lib.hid (And.intro hi (And.intro hz0 (And.intro hz1 hz2)))
  have HR := Lib.hid hr
  have HK := Lib.hid hok
  have h14 := hok.len
  clear hr hok hi hz0 hz1 hz2
  go_enter Tryd.func150, Tryd.ntmps150
  go_wp2_with fail
  go_loopw [3, 8] (fun v i wr => ∃ (k : Nat) (ys : List Im) (G : Nat → Nat), k ≤ xs.length ∧ i = .int .i64 k ∧ Hid (ys.length = k) ∧ Below w.heap.size w wr ∧ Hid (wr.ownsRow w.heap.size 76 3 v k (ys.flatMap Flat.cells)) ∧ Hid (CpTo wr xs ys G k) ∧ Hid (Apart G w.heap.size wr.heap.size (2 * k)) ∧ Hid (∀ i, i < 2 * k → v.ownBlock ≠ some (G i))) (fun _ i _ => xs.length - (intOf i).toNat)
  case atStart => exact ⟨0, [], fun _ => 0, Nat.zero_le _, rfl, Lib.hid rfl, Below.refl _ _, Lib.hid ⟨rfl, .inl ⟨rfl, rfl⟩⟩, Lib.hid (CpTo.zero _ _ _ _), Lib.hid ⟨fun i hi => absurd hi (by omega), fun i hi => absurd hi (by omega), fun i j h hi => absurd hi (by omega)⟩, Lib.hid (fun i hi => absurd hi (by omega))⟩
  case round =>
    obtain ⟨k, ys, G, hk, rfl, HY, hb, HO, HC, HAp, HNE⟩ := hrel
    by_cases hlt : k < xs.length
    · obtain ⟨b, o, rfl, hbl, hc⟩ := HR.out.out.im (by omega)
      obtain ⟨c0, c1, c2⟩ := (hc k hlt).below hb hbl
      have HE := Lib.hid ((HR.out.each k hlt).next hb)
      have hn3 := (HK.out.each k hlt).hi
      have hn1 := (HK.out.each k hlt).lo
      have HEQ := Lib.hid (HK.out.each k hlt).eq
      have hm3 : (it xs k).ms.length ≤ 3 := by have := HEQ.out; omega
      have hm1 : 0 < (it xs k).ms.length := by have := HEQ.out; omega
      have HB := Lib.hid hb
      have hbs := hb.size
      clear hc hb
      go_wp2_with fail
      generalize hW : World.alloc wr _ = W
      have hXW : ImBox W wr.heap.size (it xs k) := by
        rw [← hW]
        exact imBox_new wr _ _
      have hbW : Below wr.heap.size wr W := by
        rw [← hW]
        exact below_alloc _ _
      have hSW : W.heap.size = wr.heap.size + 1 := by rw [← hW]; simp
      have hbd : Below wr.heap.size wr W.drew := below_next hbW (below_drew W)
      have HXd := Lib.hid (hXW.next (below_drew W))
      have HRd := Lib.hid (HE.out.next hbd)
      have HBd := Lib.hid hbd
      have HSd : Hid (W.drew.heap.size = wr.heap.size + 1) := Lib.hid hSW
      clear hW hXW hbW hSW hbd c0 c1 c2
      go_region_held3 (fun w' => w'.cell? ⟨wr.heap.size, 0, none⟩ = some (.slice (it xs k).A (it xs k).ns.length (it xs k).c) ∧ w'.cell? ⟨wr.heap.size, 1, none⟩ = some (.slice (it xs k).L (it xs k).ms.length (it xs k).d) ∧ w'.cell? ⟨wr.heap.size, 2, none⟩ = some (.bool (it xs k).late))
        (first | (with_reducible exact imCells HX2.out) | (with_reducible exact imCells HXa.out) | (with_reducible exact imCells HXc.out) | (with_reducible exact imCells HXd.out) | (with_reducible exact imCells (imBox_alloc HX2.out _)) | (with_reducible exact imCells HX4.out))
        (first
          | (go_at_call 79; refine (l1OwnS_any (it xs k).A (it xs k).c (it xs k).ns _ HRd.out.ns (by omega) hn1).mono ?_; rintro e wa ⟨g1, d1, rfl, ho, h1, h2, hb⟩; have HXa := Lib.hid (HXd.out.next hb); have HBa := Lib.hid (below_next HBd.out hb); have HRa := Lib.hid (HRd.out.next hb); have HEa := Lib.hid ho; have HQa := Lib.hid (show wr.heap.size + 1 ≤ g1 ∧ g1 < wa.heap.size ∧ wr.heap.size + 1 ≤ wa.heap.size from by have := HSd.out; have := hb.size; omega); clear ho h1 h2 hb)
          | (go_at_call 168; refine (l1Own_any (it xs k).L (it xs k).d (it xs k).ms _ HRa.out.ms (by omega) hm1).mono ?_; rintro e w2 ⟨g2, d2, rfl, ho, h1, h2, hb⟩; have HX2 := Lib.hid (HXa.out.next hb); have HB2 := Lib.hid (below_next HBa.out hb); have HE2 := Lib.hid (HEa.out.block (hb.block _ HQa.out.2.1)); have HF2 := Lib.hid ho; have HQ2 := Lib.hid (show (wr.heap.size ≤ g1 ∧ wr.heap.size ≤ g2) ∧ g1 ≠ g2 ∧ g1 < w2.heap.size ∧ g2 < w2.heap.size from by have := HQa.out; have := hb.size; omega); have HOW := Lib.hid (own_next HO.out HB2.out); clear ho h1 h2 hb)
          | (go_at_call 168; refine (l1Own_any (it xs k).L (it xs k).d (it xs k).ms _ HRd.out.ms (by omega) hm1).mono ?_; rintro e wc ⟨g2, d2, rfl, ho, h1, h2, hb⟩; have HXc := Lib.hid (HXd.out.next hb); have HBc := Lib.hid (below_next HBd.out hb); have HRc := Lib.hid (HRd.out.next hb); have HFc := Lib.hid ho; have HQc := Lib.hid (show wr.heap.size + 1 ≤ g2 ∧ g2 < wc.heap.size ∧ wr.heap.size + 1 ≤ wc.heap.size from by have := HSd.out; have := hb.size; omega); clear ho h1 h2 hb)
          | (go_at_call 79; refine (l1OwnS_any (it xs k).A (it xs k).c (it xs k).ns _ HRc.out.ns (by omega) hn1).mono ?_; rintro e w2 ⟨g1, d1, rfl, ho, h1, h2, hb⟩; have HX2 := Lib.hid (HXc.out.next hb); have HB2 := Lib.hid (below_next HBc.out hb); have HF2 := Lib.hid (HFc.out.block (hb.block _ HQc.out.2.1)); have HE2 := Lib.hid ho; have HQ2 := Lib.hid (show (wr.heap.size ≤ g1 ∧ wr.heap.size ≤ g2) ∧ g1 ≠ g2 ∧ g1 < w2.heap.size ∧ g2 < w2.heap.size from by have := HQc.out; have := hb.size; omega); have HOW := Lib.hid (own_next HO.out HB2.out); clear ho h1 h2 hb)
          | (refine step_append_srcN _ (by rfl) (.tmp 12) (.tmp 22) 43 (by rfl) w.heap.size 76 i0 (.agg #[.slice none 0 0, .slice none 0 0, .bool false]) 3 56 (by decide) Tryd.underlying43 HZ.out.1 HZ.out.2.1 HZ.out.2.2.1 HZ.out.2.2.2 rfl _ k (ys.flatMap Flat.cells) (by rfl) (HOW.out.alloc _) (some ⟨w2.heap.size, 0, none⟩) 1 1 (Im.cs ⟨some ⟨g1, 0, none⟩, d1, some ⟨g2, 0, none⟩, d2, (it xs k).ns, (it xs k).ms, (it xs k).late⟩) (by rfl) rfl (fun _ => ⟨_, rfl, im_news (by simp) (by simp) (by simp)⟩) (im_one1 _) (by unfold maxLen; omega) (by omega) (by have := HB2.out.size; simp; omega) ?_; intro v1 w4 hown hgrow hat; have HX4 := Lib.hid (imBox_grown (imBox_alloc HX2.out _) hgrow (fun m e => (HO.out.lt m e).2)))
          | fail)
      all_goals
        have hst := cp_step (y := ⟨some ⟨g1, 0, none⟩, d1, some ⟨g2, 0, none⟩, d2, (it xs k).ns, (it xs k).ms, (it xs k).late⟩) HY.out HO.out HC.out HAp.out HNE.out HB.out HB2.out HQ2.out rfl ⟨rfl, rfl, rfl, rfl, rfl, HE2.out, HF2.out⟩ hgrow hat
        obtain ⟨hb4, hc4, ha4, hn4⟩ := hst
        have hy4 := HY.out
        have HOWN := Lib.hid (show w4.ownsRow w.heap.size 76 3 v1 (k + 1) ((ys ++ [(⟨some ⟨g1, 0, none⟩, d1, some ⟨g2, 0, none⟩, d2, (it xs k).ns, (it xs k).ms, (it xs k).late⟩ : Im)]).flatMap Flat.cells) from by
          rw [List.flatMap_append, List.flatMap_cons, List.flatMap_nil, List.append_nil]
          exact hown)
        have HC4 := Lib.hid hc4
        have HA4 := Lib.hid ha4
        have HN4 := Lib.hid hn4
        have HY4 := Lib.hid (show (ys ++ [(⟨some ⟨g1, 0, none⟩, d1, some ⟨g2, 0, none⟩, d2, (it xs k).ns, (it xs k).ms, (it xs k).late⟩ : Im)]).length = k + 1 by simp [hy4])
        clear hown hgrow hat hc4 ha4 hn4 hy4
        go_wp2
        go_roundw
        case rel => exact ⟨k + 1, _, _, by omega, by go_num, HY4, hb4, HOWN, HC4, HA4, HN4⟩
        case measure => simp [intOf]; omega
    · obtain rfl : k = xs.length := by omega
      have ho := HO.out
      rw [← HY.out] at ho
      obtain ⟨R, d, g, rfl, h1, h2⟩ := own_form ys ho
      have HRM := Lib.hid (own_room ho)
      have hwr := hb.size
      have hy := HY.out
      have hcl := cp_own (S := fun i => w.heap.size ≤ i ∧ i < wr.heap.size) (R := R) (g := g) hy HC.out HAp.out h1 (fun i hi q => HNE.out i hi (by rw [q]; exact (h2 (by omega)).2.2)) (fun hp => ⟨by have := (h2 hp).1; omega, (h2 hp).2.1⟩) (fun i q1 q2 => ⟨by omega, q2⟩)
      have HCL := Lib.hid hcl
      have HBW := Lib.hid hb
      clear hb ho h1 h2 hcl
      go_wp2
      go_returns
      exact ⟨⟨R, d, ys, g, G, rfl, HRM.out, HCL.out.1, HCL.out.2⟩, HBW.out⟩
theorem itOwn_any (P : Option Addr) (c : Nat) (xs : List Im) (w : World) (hr : Ims w w.heap.size P xs) (hok : Near xs) :
    Calls Tryd.prog 150 #[.slice P xs.length c] w fun e w' => (∃ R d ys g G, e = .returned (.slice R ys.length d) ∧ SameS xs ys ∧ ImsOwn (fun i => w.heap.size ≤ i ∧ i < w'.heap.size) w' R g G ys) ∧ Below w.heap.size w w' :=
  (itOwn_cap P c xs w hr hok).mono fun e w' ⟨⟨R, d, ys, g, G, h1, _, h3⟩, h4⟩ => ⟨⟨R, d, ys, g, G, h1, h3⟩, h4⟩
end Go.Proofs.YtnlcdfaojcnkpaaDoor

namespace Go.Proofs.YtnlcdfaojcnkpaaDoor
open Go.ChangeShapes Go.WideShapes Go.ChangeAt Go.RowKit Go.PlainAid
set_option linter.unusedVariables false

/-- The copy with the flags of the first k items stored. -/
structure LateAt (xs zs : List Im) (k : Nat) : Prop where
  len : zs.length = xs.length
  ns : ∀ i, i < xs.length → (it zs i).ns = (it xs i).ns
  ms : ∀ i, i < xs.length → (it zs i).ms = (it xs i).ms
  late : ∀ i, i < k → (it zs i).late = decide (xs.length ≤ 2 * i)
theorem LateAt.start {xs zs : List Im} (h : SameS xs zs) : LateAt xs zs 0 := ⟨h.len, fun i hi => (h.each i hi).ns, fun i hi => (h.each i hi).ms, fun i hi => absurd hi (by omega)⟩
theorem LateAt.step {xs zs : List Im} {k : Nat} (h : LateAt xs zs k) (hk : k < xs.length) (b : Bool) (hb : b = decide (xs.length ≤ 2 * k)) : LateAt xs (zs.set k { it zs k with late := b }) (k + 1) := by
  have hz : k < zs.length := by have := h.len; omega
  refine ⟨by rw [List.length_set]; exact h.len, fun i hi => ?_, fun i hi => ?_, fun i hi => ?_⟩ <;> rw [it_set _ _ _ _ hz] <;> by_cases e : i = k
  · rw [if_pos e, e]
    exact h.ns k hk
  · rw [if_neg e]
    exact h.ns i hi
  · rw [if_pos e, e]
    exact h.ms k hk
  · rw [if_neg e]
    exact h.ms i hi
  · rw [if_pos e, e]
    exact hb
  · rw [if_neg e]
    exact h.late i (by omega)
theorem LateAt.done {xs zs : List Im} (h : LateAt xs zs xs.length) : SameS (lateS xs) zs := ⟨by rw [lateS_len]; exact h.len, fun i hi => by
  rw [lateS_len] at hi
  rw [lateS_it xs i hi]
  exact ⟨h.ns i hi, h.ms i hi, h.late i hi⟩⟩

end Go.Proofs.YtnlcdfaojcnkpaaDoor

namespace Go.Proofs.YtnlcdfaojcnkpaaDoor
open Go.ChangeShapes Go.WideShapes Go.ChangeAt Go.RowKit Go.PlainAid
set_option linter.unusedVariables false

theorem cloneS_any (A : Option Addr) (c : Nat) (l : List ByteArray) (w : World) (hr : Lst w w.heap.size A l) (hl : l.length ≤ 1048576) (hp : 0 < l.length) :
    Calls Tryd.prog 107 #[.slice A l.length c] w fun e w' => ∃ g cap, e = .returned (.slice (some ⟨g, 0, none⟩) l.length cap) ∧ OwnAt w' g 0 l ∧ w.heap.size ≤ g ∧ g < w'.heap.size ∧ Below w.heap.size w w' := by
  obtain ⟨b, o, rfl, hbl, hc⟩ := hr.str hp
  obtain ⟨i0, hi, hz0, hz1, hz2⟩ := info_parts Tryd.infoStr
  refine (Tryd.slices_Clone_f107 i0 (.string ⟨#[]⟩) 1 16 hi hz0 hz1 hz2 rfl (by decide) Tryd.sizeOf9 b o l.length c (l.map Value.string) w (by simp) (by unfold maxLen; omega) (by omega) (fun j u hj => ?_) (str_one l)).mono ?_
  · have hj' : j < l.length := by
      have := (List.getElem?_eq_some_iff.1 hj).1
      simpa using this
    rw [List.getElem?_map, it_get l j hj'] at hj
    have hu : Value.string (it l j) = u := by simpa using hj
    rw [← hu]
    exact hc j hj'
  · rintro e w' ⟨v', rfl, hown, _, hb⟩
    obtain ⟨g, cap, rfl, h1, h2⟩ := row_pos hown hp
    exact ⟨g, cap, rfl, own_of_row (α := ByteArray) (cap := cap) (e := 9) (base := w.heap.size) l (by rw [flatMap_str]; exact hown), h1, h2, hb⟩
theorem cloneI_any (A : Option Addr) (c : Nat) (l : List Int) (w : World) (hr : Lst w w.heap.size A l) (hl : l.length ≤ 1048576) (hp : 0 < l.length) :
    Calls Tryd.prog 108 #[.slice A l.length c] w fun e w' => ∃ g cap, e = .returned (.slice (some ⟨g, 0, none⟩) l.length cap) ∧ OwnAt w' g 0 l ∧ w.heap.size ≤ g ∧ g < w'.heap.size ∧ Below w.heap.size w w' := by
  obtain ⟨b, o, rfl, hbl, hc⟩ := hr.int hp
  obtain ⟨i0, hi, hz0, hz1, hz2⟩ := info_parts Tryd.infoInt
  refine (Tryd.slices_Clone_f108 i0 (.int .i64 0) 1 8 hi hz0 hz1 hz2 rfl (by decide) Tryd.sizeOf3 b o l.length c (l.map (Value.int .i64)) w (by simp) (by unfold maxLen; omega) (by omega) (fun j u hj => ?_) (int_one l)).mono ?_
  · have hj' : j < l.length := by
      have := (List.getElem?_eq_some_iff.1 hj).1
      simpa using this
    rw [List.getElem?_map, it_get l j hj'] at hj
    have hu : Value.int .i64 (it l j) = u := by simpa using hj
    rw [← hu]
    exact hc j hj'
  · rintro e w' ⟨v', rfl, hown, _, hb⟩
    obtain ⟨g, cap, rfl, h1, h2⟩ := row_pos hown hp
    exact ⟨g, cap, rfl, own_of_row (α := Int) (cap := cap) (e := 3) (base := w.heap.size) l (by rw [flatMap_int]; exact hown), h1, h2, hb⟩
theorem ImBox.threeAt {w : World} {b : Nat} {x : Im} (h : ImBox w b x) (b' o : Nat) (hne : b ≠ b') (u0 u1 u2 : Value) : ImBox (((w.setCell ⟨b', o, none⟩ u0).setCell ⟨b', o + 1, none⟩ u1).setCell ⟨b', o + 2, none⟩ u2) b x := by
  have hk : Only (fun i => i = b') w (((w.setCell ⟨b', o, none⟩ u0).setCell ⟨b', o + 1, none⟩ u1).setCell ⟨b', o + 2, none⟩ u2) :=
    Only.put (S := fun i => i = b') (Only.put (S := fun i => i = b') (Only.put (S := fun i => i = b') (Only.refl _ w) b' _ rfl _) b' _ rfl _) b' _ rfl _
  have hb := hk.block b h.lt (fun e => hne e)
  exact ⟨Nat.lt_of_lt_of_le h.lt hk.size, (World.cell?_of_block (a := ⟨b, 0, none⟩) hb).trans h.c0, (World.cell?_of_block (a := ⟨b, 1, none⟩) hb).trans h.c1, (World.cell?_of_block (a := ⟨b, 2, none⟩) hb).trans h.c2⟩

set_option maxRecDepth 20000 in
set_option maxHeartbeats 4000000 in
theorem copyOfItems_any (P : Option Addr) (c : Nat) (xs : List Im) (w : World) (hr : Ims w w.heap.size P xs) (hok : ListOk xs) :
    Calls Tryd.prog 84 #[.slice P xs.length c] w fun e w' => (∃ R d ys g G, e = .returned (.slice R ys.length d) ∧ SameS xs ys ∧ ImsOwn (fun i => w.heap.size ≤ i ∧ i < w'.heap.size) w' R g G ys) ∧ Below w.heap.size w w' := by
  have HR := Lib.hid hr
  obtain ⟨i0, hi, hz0, hz1, hz2⟩ := info_parts Tryd.infoIm
  have HZ := Lib.hid (made_flat (α := Im) #[.slice none 0 0, .slice none 0 0, .bool false] default xs.length rfl (by decide))
  have HK := Lib.hid hok
  have h14 := hok.len
  clear hr hok
  go_enter Tryd.func84, Tryd.ntmps84
  go_wp2_with (at_make; refine wpList_make_full _ rfl (.tmp 7) (.tmp 7) 43 rfl w.heap.size 76 i0 (.agg #[.slice none 0 0, .slice none 0 0, .bool false]) 3 Tryd.underlying43 hi hz0 hz1 .i64 .i64 _ _ xs.length rfl rfl rfl rfl (by rw [hz2]; omega) (by unfold maxLen; omega) (Nat.le_refl _) ?_; intro w2 hown hgrow)
  have HW := Lib.hid (show OwnAt w2 w.heap.size 0 (List.replicate xs.length (default : Im)) from own_of_row (α := Im) (cap := xs.length) (e := 76) (base := w.heap.size) _ (by rw [← HZ.out, List.length_replicate]; exact hown))
  have hb2 : Below w.heap.size w w2 := (Below.refl _ _).grown hgrow (Nat.le_refl _) (fun k e => by cases e)
  have hs2 := (hown.lt w.heap.size rfl).2
  have HB2 := Lib.hid hb2
  clear hown hgrow hb2 hi hz0 hz1 hz2
  go_loopw [11] (fun i wr => ∃ (k : Nat) (ys : List Im) (G : Nat → Nat), k ≤ xs.length ∧ i = .int .i64 k ∧ Hid (ys.length = xs.length) ∧ Hid (CpTo wr (xs) ys G k) ∧ Hid (OwnAt wr w.heap.size 0 ys) ∧ Hid (Apart G (w.heap.size + 1) wr.heap.size (2 * k)) ∧ w.heap.size < wr.heap.size ∧ Below w.heap.size w wr) (fun i _ => xs.length - (intOf i).toNat)
  case atStart => exact ⟨0, _, fun _ => 0, Nat.zero_le _, rfl, Lib.hid (by rw [List.length_replicate]), Lib.hid (CpTo.zero _ _ _ _), HW, Lib.hid ⟨fun i hi => absurd hi (by omega), fun i hi => absurd hi (by omega), fun i j h hi => absurd hi (by omega)⟩, hs2, HB2.out⟩
  case round =>
    obtain ⟨k, ys, G, hk, rfl, HY, HC, HO, HAp, hsr, hb⟩ := hrel
    have hbw := hb
    by_cases hlt : k < xs.length
    · obtain ⟨b, o, rfl, hbl, hc⟩ := HR.out.out.im (by omega)
      obtain ⟨c0, c1, c2⟩ := (hc k hlt).below hbw hbl
      have HE := Lib.hid ((HR.out.each k hlt).next hbw)
      have hn3 := (HK.out.each k hlt).hi
      have hn1 := (HK.out.each k hlt).lo
      have HEQ := Lib.hid (HK.out.each k hlt).eq
      have hm3 : (it xs k).ms.length ≤ 3 := by have := HEQ.out; omega
      have hm1 : 0 < (it xs k).ms.length := by have := HEQ.out; omega
      have HB := Lib.hid hb
      clear hc hb hbw
      go_wp2_with fail
      generalize hW : World.alloc wr _ = W
      have hXW : ImBox W wr.heap.size (it xs k) := by
        rw [← hW]
        exact imBox_new wr _ _
      have hbW : Below wr.heap.size wr W := by
        rw [← hW]
        exact below_alloc _ _
      have hSW : W.heap.size = wr.heap.size + 1 := by rw [← hW]; simp
      have hbd : Below wr.heap.size wr W.drew := below_next hbW (below_drew W)
      have HXd := Lib.hid (hXW.next (below_drew W))
      have HRd := Lib.hid (HE.out.next hbd)
      have HBd := Lib.hid hbd
      have HSd : Hid (W.drew.heap.size = wr.heap.size + 1) := Lib.hid hSW
      clear hW hXW hbW hSW hbd c0 c1 c2
      have q1 : (0 : Int) ≤ (k : Int) := by omega
      have q2 : (k : Int) < (xs.length : Int) := by omega
      have hkl : k < ys.length := by have := HY.out; omega
      have hneb : wr.heap.size ≠ w.heap.size := by omega
      go_region_held3 (fun w' => w'.cell? ⟨wr.heap.size, 0, none⟩ = some (.slice (it xs k).A (it xs k).ns.length (it xs k).c) ∧ w'.cell? ⟨wr.heap.size, 1, none⟩ = some (.slice (it xs k).L (it xs k).ms.length (it xs k).d) ∧ w'.cell? ⟨wr.heap.size, 2, none⟩ = some (.bool (it xs k).late))
        (first | (with_reducible exact ⟨HX2.out.c0, HX2.out.c1, HX2.out.c2⟩) | (with_reducible exact ⟨HXa.out.c0, HXa.out.c1, HXa.out.c2⟩) | (with_reducible exact ⟨HXc.out.c0, HXc.out.c1, HXc.out.c2⟩) | (with_reducible exact ⟨HXd.out.c0, HXd.out.c1, HXd.out.c2⟩) | (with_reducible exact ⟨(HX2.out.threeAt w.heap.size (k * 3) hneb _ _ _).c0, (HX2.out.threeAt w.heap.size (k * 3) hneb _ _ _).c1, (HX2.out.threeAt w.heap.size (k * 3) hneb _ _ _).c2⟩))
        (first
          | (go_at_call 107; refine (cloneS_any (it xs k).A (it xs k).c (it xs k).ns _ HRd.out.ns (by omega) hn1).mono ?_; rintro e wa ⟨g1, d1, rfl, ho, h1, h2, hb⟩; have HXa := Lib.hid (HXd.out.next hb); have HBa := Lib.hid (below_next HBd.out hb); have HRa := Lib.hid (HRd.out.next hb); have HEa := Lib.hid ho; have HQa := Lib.hid (show wr.heap.size + 1 ≤ g1 ∧ g1 < wa.heap.size ∧ wr.heap.size + 1 ≤ wa.heap.size from by have := HSd.out; have := hb.size; omega); clear ho h1 h2 hb)
          | (go_at_call 108; refine (cloneI_any (it xs k).L (it xs k).d (it xs k).ms _ HRa.out.ms (by omega) hm1).mono ?_; rintro e w3 ⟨g2, d2, rfl, ho, h1, h2, hb⟩; have HX2 := Lib.hid (HXa.out.next hb); have HB3 := Lib.hid (below_next HBa.out hb); have HE2 := Lib.hid (HEa.out.block (hb.block _ HQa.out.2.1)); have HF2 := Lib.hid ho; have HQ2 := Lib.hid (show wr.heap.size + 1 ≤ g1 ∧ wr.heap.size + 1 ≤ g2 ∧ g1 ≠ g2 ∧ g1 < w3.heap.size ∧ g2 < w3.heap.size from by have := HQa.out; have := hb.size; omega); have HO3 := Lib.hid (HO.out.block (HB3.out.block _ hsr)); obtain ⟨⟨m0, m1, m2⟩, f0, f1, f2⟩ := HO3.out.im0 k hkl; clear ho h1 h2 hb)
          | (go_at_call 108; refine (cloneI_any (it xs k).L (it xs k).d (it xs k).ms _ HRd.out.ms (by omega) hm1).mono ?_; rintro e wc ⟨g2, d2, rfl, ho, h1, h2, hb⟩; have HXc := Lib.hid (HXd.out.next hb); have HBc := Lib.hid (below_next HBd.out hb); have HRc := Lib.hid (HRd.out.next hb); have HFc := Lib.hid ho; have HQc := Lib.hid (show wr.heap.size + 1 ≤ g2 ∧ g2 < wc.heap.size ∧ wr.heap.size + 1 ≤ wc.heap.size from by have := HSd.out; have := hb.size; omega); clear ho h1 h2 hb)
          | (go_at_call 107; refine (cloneS_any (it xs k).A (it xs k).c (it xs k).ns _ HRc.out.ns (by omega) hn1).mono ?_; rintro e w3 ⟨g1, d1, rfl, ho, h1, h2, hb⟩; have HX2 := Lib.hid (HXc.out.next hb); have HB3 := Lib.hid (below_next HBc.out hb); have HF2 := Lib.hid (HFc.out.block (hb.block _ HQc.out.2.1)); have HE2 := Lib.hid ho; have HQ2 := Lib.hid (show wr.heap.size + 1 ≤ g1 ∧ wr.heap.size + 1 ≤ g2 ∧ g1 ≠ g2 ∧ g1 < w3.heap.size ∧ g2 < w3.heap.size from by have := HQc.out; have := hb.size; omega); have HO3 := Lib.hid (HO.out.block (HB3.out.block _ hsr)); obtain ⟨⟨m0, m1, m2⟩, f0, f1, f2⟩ := HO3.out.im0 k hkl; clear ho h1 h2 hb)
          | fail)
      all_goals
        have hst := cp_set (w1 := w) (wr := wr) (w3 := w3) (xs := xs) (ys := ys) (G := G) (k := k) (g1 := g1) (g2 := g2) (y := ⟨some ⟨g1, 0, none⟩, d1, some ⟨g2, 0, none⟩, d2, (it xs k).ns, (it xs k).ms, (it xs k).late⟩) HC.out HO3.out HAp.out hsr HB3.out HB.out hkl HQ2.out (by exact ⟨rfl, rfl, rfl, rfl, rfl, HE2.out, HF2.out⟩)
        have hpc : Flat.cells (⟨some ⟨g1, 0, none⟩, d1, some ⟨g2, 0, none⟩, d2, (it xs k).ns, (it xs k).ms, (it xs k).late⟩ : Im) = [.slice (some ⟨g1, 0, none⟩) (it xs k).ns.length d1, .slice (some ⟨g2, 0, none⟩) (it xs k).ms.length d2, .bool ((it xs k).late)] := rfl
        rw [hpc] at hst
        obtain ⟨hc4, ho4, ha4, hs4, hb4⟩ := hst
        have HC4 := Lib.hid hc4
        have HO4 := Lib.hid ho4
        have HA4 := Lib.hid ha4
        have HY4 := Lib.hid (show (ys.set k (⟨some ⟨g1, 0, none⟩, d1, some ⟨g2, 0, none⟩, d2, (it xs k).ns, (it xs k).ms, (it xs k).late⟩ : Im)).length = xs.length by rw [List.length_set]; exact HY.out)
        clear hc4 ho4 ha4 hpc
        go_wp2
        go_roundw
        case rel => exact ⟨k + 1, _, _, by omega, by go_num, HY4, HC4, HO4, HA4, hs4, hb4⟩
        case measure => simp [intOf]; omega
    · obtain rfl : k = xs.length := by omega
      have hcl := cp_own (S := fun i => w.heap.size ≤ i ∧ i < wr.heap.size) (R := some ⟨w.heap.size, 0, none⟩) (g := w.heap.size) (xs := xs) (ys := ys) HY.out HC.out HAp.out (fun _ => ⟨_, 0, rfl, rfl, hsr, HO.out⟩) (fun i hi q => by have := HAp.out.lo i hi; omega) (fun _ => ⟨Nat.le_refl _, hsr⟩) (fun i q1 q2 => ⟨by omega, q2⟩)
      have HCL := Lib.hid hcl
      have HBW := Lib.hid hbw
      have hy := HY.out
      clear hb hbw hcl
      go_wp2
      go_ret
      exact ⟨⟨some ⟨w.heap.size, 0, none⟩, xs.length, ys, w.heap.size, G, by rw [hy]; rfl, HCL.out.1, HCL.out.2⟩, HBW.out⟩
theorem markItemS_m (S : Nat → Prop) (P : Option Addr) (c n : Nat) (g : Nat) (G : Nat → Nat) (xs : List Im) (m : Int) (k : Nat) (w : World) (hm : m = (k : Int)) (hn : xs.length = n) (hr : ImsOwn S w P g G xs) (hl : ImsFits xs) (hk : 0 < k) (hk2 : k ≤ 1000000000000) :
    Calls Tryd.prog 22 #[.slice P n c, .int .i64 m] w fun e w' => e = .returned (.int .i64 ((kAt xs k xs.length : Nat) : Int)) ∧ (∃ ys, Marked xs k xs.length ys ∧ ImsOwn S w' P g G ys) ∧ Only S w w' := by
  subst hm hn
  exact markItemS_any S P c g G xs k w hr hl hk (by omega)
end Go.Proofs.YtnlcdfaojcnkpaaDoor

namespace Go.Proofs.YtnlcdfaojcnkpaaDoor
open Go.ChangeShapes Go.WideShapes Go.ChangeAt Go.RowKit Go.PlainAid
set_option linter.unusedVariables false

def setLt (y : Im) (b : Bool) : Im := ⟨y.A, y.c, y.L, y.d, y.ns, y.ms, b⟩
theorem ImsOwn.putLate {S : Nat → Prop} {w : World} {P : Option Addr} {g : Nat} {G : Nat → Nat} {ys : List Im} (h : ImsOwn S w P g G ys) (k : Nat) (hk : k < ys.length) (b o : Nat) (hP : P = some ⟨b, o, none⟩) (v : Bool) :
    ImsOwn S (w.setCell ⟨b, o + k * 3 + 2, none⟩ (.bool v)) P g G (ys.set k (setLt (it ys k) v)) := by
  obtain ⟨b', o', e1, e2, hlt, hO⟩ := h.out (by omega)
  rw [hP] at e1
  injection e1 with e1
  injection e1 with e3 e4
  subst e3 e4
  have ho : Only (fun i => i = g) w (w.setCell ⟨b, o + k * 3 + 2, none⟩ (.bool v)) := Only.put (Only.refl _ w) b _ e2 _
  refine ⟨fun _ => ⟨b, o, hP, e2, Nat.lt_of_lt_of_le hlt ho.size, hO.setLate k hk (setLt (it ys k) v) rfl rfl rfl rfl rfl rfl⟩, fun i hi => ?_, fun i hi => ?_, fun i hi => h.ne i (by simpa using hi), fun i m him hm => h.inj i m him (by simpa using hm), fun _ => h.sg (by omega), fun i hi => h.sG i (by simpa using hi)⟩
  · rw [List.length_set] at hi
    rw [it_set _ _ _ _ hk]
    have := (h.ns i hi).keep ho (fun a q1 q2 => h.ne (2 * i) (by omega) (q1.symm.trans q2))
    by_cases e : i = k
    · subst e
      rw [if_pos rfl]
      exact this
    · rw [if_neg e]
      exact this
  · rw [List.length_set] at hi
    rw [it_set _ _ _ _ hk]
    have := (h.ms i hi).keep ho (fun a q1 q2 => h.ne (2 * i + 1) (by omega) (q1.symm.trans q2))
    by_cases e : i = k
    · subst e
      rw [if_pos rfl]
      exact this
    · rw [if_neg e]
      exact this
/-- The first k flags are set. -/
structure LtTo (xs zs : List Im) (k : Nat) : Prop where
  len : zs.length = xs.length
  ns : ∀ i, i < xs.length → (it zs i).ns = (it xs i).ns
  ms : ∀ i, i < xs.length → (it zs i).ms = (it xs i).ms
  lt : ∀ i, i < k → i < xs.length → (it zs i).late = decide (xs.length ≤ 2 * i)
theorem LtTo.zero {xs zs : List Im} (h : SameS xs zs) : LtTo xs zs 0 := ⟨h.len, fun i hi => (h.each i hi).ns, fun i hi => (h.each i hi).ms, fun i hi => absurd hi (by omega)⟩
theorem LtTo.step {xs zs : List Im} {k : Nat} (h : LtTo xs zs k) (hk : k < xs.length) : LtTo xs (zs.set k (setLt (it zs k) (decide (xs.length ≤ 2 * k)))) (k + 1) := by
  have hl := h.len
  have hs : ∀ i, it (zs.set k (setLt (it zs k) (decide (xs.length ≤ 2 * k)))) i = if i = k then setLt (it zs k) (decide (xs.length ≤ 2 * k)) else it zs i := fun i => it_set _ _ _ _ (by omega)
  refine ⟨by rw [List.length_set]; exact hl, fun i hi => ?_, fun i hi => ?_, fun i hi hx => ?_⟩
  · rw [hs]
    by_cases e : i = k
    · subst e
      rw [if_pos rfl]
      exact h.ns i hi
    · rw [if_neg e]
      exact h.ns i hi
  · rw [hs]
    by_cases e : i = k
    · subst e
      rw [if_pos rfl]
      exact h.ms i hi
    · rw [if_neg e]
      exact h.ms i hi
  · rw [hs]
    by_cases e : i = k
    · subst e
      rw [if_pos rfl]
      rfl
    · rw [if_neg e]
      exact h.lt i (by omega) hx
theorem LtTo.done {xs zs : List Im} (h : LtTo xs zs xs.length) : SameS (lateS xs) zs := by
  refine ⟨by rw [lateS_len]; exact h.len, fun i hi => ?_⟩
  rw [lateS_len] at hi
  rw [lateS_it xs i hi]
  exact ⟨h.ns i hi, h.ms i hi, h.lt i hi hi⟩
end Go.Proofs.YtnlcdfaojcnkpaaDoor

namespace Go.Proofs.YtnlcdfaojcnkpaaDoor
end Go.Proofs.YtnlcdfaojcnkpaaDoor
