/- Lists of pairs built by append: the places where a question is answered with yes. -/
import Derived.Test.YtbhfhjhegcfdkaaShN
import Derived.Test.YtbhfhjhegcfdkaaItemP
import Derived.Test.YtbhfhjhegcfdkaaAppN
namespace Go.Proofs.Ytbhfhjhegcfdkaa
open Go.ChangeShapes Go.WideShapes Go.ChangeAt Go.RowKit Go.Lib Go.Proofs
set_option linter.unusedVariables false

/-- The places of an item's first names. -/
def plJ (D : Nat → Nat → Bool) (i : Nat) : Nat → List (List Int)
  | 0 => []
  | j + 1 => if D i j = true then plJ D i j ++ [[(i : Int), (j : Int)]] else plJ D i j
/-- The places of the first items. -/
def plI (n : Nat → Nat) (D : Nat → Nat → Bool) : Nat → List (List Int)
  | 0 => []
  | i + 1 => plI n D i ++ plJ D i (n i)
theorem plJ_yes {D : Nat → Nat → Bool} {i j : Nat} (h : D i j = true) : plJ D i (j + 1) = plJ D i j ++ [[(i : Int), (j : Int)]] := if_pos h
theorem plJ_no {D : Nat → Nat → Bool} {i j : Nat} (h : D i j = false) : plJ D i (j + 1) = plJ D i j := if_neg (by rw [h]; simp)
theorem plJ_len (D : Nat → Nat → Bool) (i : Nat) : ∀ j, (plJ D i j).length ≤ j
  | 0 => Nat.le_refl _
  | j + 1 => by
    have := plJ_len D i j
    rw [plJ]
    split <;> simp <;> omega
theorem plI_len {n : Nat → Nat} {D : Nat → Nat → Bool} : ∀ i, (∀ k, k < i → n k ≤ 3) → (plI n D i).length ≤ 3 * i
  | 0, _ => Nat.le_refl _
  | i + 1, h => by
    have h1 := plI_len (n := n) (D := D) i (fun k hk => h k (by omega))
    have h2 := plJ_len D i (n i)
    have h3 := h i (by omega)
    rw [plI, List.length_append]
    omega
theorem plJ_congr {D E : Nat → Nat → Bool} {i : Nat} : ∀ j, (∀ k, k < j → D i k = E i k) → plJ D i j = plJ E i j
  | 0, _ => rfl
  | j + 1, h => by rw [plJ, plJ, h j (by omega), plJ_congr j (fun k hk => h k (by omega))]
theorem plI_congr {n m : Nat → Nat} {D E : Nat → Nat → Bool} : ∀ i, (∀ k, k < i → n k = m k) → (∀ k j, k < i → j < n k → D k j = E k j) → plI n D i = plI m E i
  | 0, _, _ => rfl
  | i + 1, h, h2 => by rw [plI, plI, plI_congr i (fun k hk => h k (by omega)) (fun k j hk hj => h2 k j (by omega) hj), ← h i (by omega), plJ_congr _ (fun k hk => h2 i k (by omega) hk)]

structure NAp (w1 wr : World) (v : Value) (ps : List (List Int)) (ys : List (Rw Int)) (s : Nat → Nat) : Prop where
  len : ys.length = ps.length
  val : ∀ k, k < ps.length → (it ys k).xs = it ps k
  row : wr.ownsRow w1.heap.size 54 1 v ys.length (ys.flatMap Flat.cells)
  adr : ∀ k, k < ps.length → (it ys k).A = some ⟨s k, 0, none⟩
  each : ∀ k, k < ps.length → OwnAt wr (s k) 0 (it ys k).xs
  lo : ∀ k, k < ps.length → w1.heap.size ≤ s k
  hi : ∀ k, k < ps.length → s k < wr.heap.size
  inj : ∀ k l, k < l → l < ps.length → s k ≠ s l
  ne : ∀ k, k < ps.length → v.ownBlock ≠ some (s k)
theorem NAp.zero (w1 wr : World) : NAp w1 wr (.slice none 0 0) [] [] (fun _ => 0) :=
  ⟨rfl, fun k hk => absurd hk (by simp), ⟨rfl, .inl ⟨rfl, rfl⟩⟩, fun k hk => absurd hk (by simp), fun k hk => absurd hk (by simp), fun k hk => absurd hk (by simp), fun k hk => absurd hk (by simp), fun k l _ hl => absurd hl (by simp), fun k hk => absurd hk (by simp)⟩
theorem NAp.next {w1 wr w2 : World} {v : Value} {ps : List (List Int)} {ys : List (Rw Int)} {s : Nat → Nat} (h : NAp w1 wr v ps ys s) (hb : Below wr.heap.size wr w2) : NAp w1 w2 v ps ys s :=
  ⟨h.len, h.val, own_next h.row hb, h.adr, fun k hk => (h.each k hk).block (hb.block _ (h.hi k hk)), h.lo, fun k hk => Nat.lt_of_lt_of_le (h.hi k hk) hb.size, h.inj, h.ne⟩
theorem own_pair (w : World) (a b : Int) (t : TypeId) (g : Nat) (hg : w.heap.size = g) : OwnAt (w.alloc (.cells #[.int .i64 a, .int .i64 b] t)) g 0 [a, b] := by
  subst hg
  refine ⟨fun i hi j v hv => ?_, fun i j hi hj => by simp⟩
  have hi' : i < 2 := hi
  match j, hv with
  | 0, hv =>
    rcases (show i = 0 ∨ i = 1 by omega) with rfl | rfl
    · obtain rfl := Option.some.inj hv
      simp [Flat.sz]
      rfl
    · obtain rfl := Option.some.inj hv
      simp [Flat.sz]
      rfl
theorem it_snoc_lt {α : Type} [Inhabited α] {xs : List α} {x : α} {k : Nat} (h : k < xs.length) : it (xs ++ [x]) k = it xs k := by
  unfold it
  rw [List.getD_eq_getElem?_getD, List.getD_eq_getElem?_getD, List.getElem?_append_left h]
theorem it_snoc_eq {α : Type} [Inhabited α] {xs : List α} {x : α} : it (xs ++ [x]) xs.length = x := by
  unfold it
  rw [List.getD_eq_getElem?_getD, List.getElem?_append_right (Nat.le_refl _)]
  simp
/-- One pair more. -/
theorem NAp.push {w1 wr w4 : World} {v v1 : Value} {ps : List (List Int)} {ys : List (Rw Int)} {s : Nat → Nat} {a b : Int} {t1 t2 : TypeId} (h : NAp w1 wr v ps ys s) (hb : Below w1.heap.size w1 wr)
    (hown : w4.ownsRow w1.heap.size 54 1 v1 (ys.length + 1) (ys.flatMap Flat.cells ++ [.slice (some ⟨wr.heap.size, 0, none⟩) 2 2]))
    (hgrow : ((wr.alloc (.cells #[.int .i64 a, .int .i64 b] t1)).alloc (.cells #[.slice (some ⟨wr.heap.size, 0, none⟩) 2 2] t2)).grownBy w4 v.ownBlock) (hat : v1.ownBlock = v.ownBlock ∨ v1.ownBlock = some (wr.heap.size + 1 + 1)) :
    NAp w1 w4 v1 (ps ++ [[a, b]]) (ys ++ [⟨some ⟨wr.heap.size, 0, none⟩, 2, [a, b]⟩]) (fun k => if k = ps.length then wr.heap.size else s k) ∧ Below w1.heap.size w1 w4 := by
  have hl := h.len
  have hbs := hb.size
  have hs3 : ((wr.alloc (.cells #[.int .i64 a, .int .i64 b] t1)).alloc (.cells #[.slice (some ⟨wr.heap.size, 0, none⟩) 2 2] t2)).heap.size = wr.heap.size + 1 + 1 := by simp
  have hsz := hgrow.size
  rw [hs3] at hsz
  have hv : ∀ m, v.ownBlock = some m → w1.heap.size ≤ m ∧ m < wr.heap.size := fun m e => h.row.lt m e
  have hb3 : Below wr.heap.size wr ((wr.alloc (.cells #[.int .i64 a, .int .i64 b] t1)).alloc (.cells #[.slice (some ⟨wr.heap.size, 0, none⟩) 2 2] t2)) := below_next (below_alloc _ _) (below_alloc _ _)
  have kb : ∀ g, g < wr.heap.size → v.ownBlock ≠ some g → w4.heap[g]? = wr.heap[g]? := fun g h1 h2 => by
    rw [hgrow.block g (by rw [hs3]; omega) (fun q => h2 q.symm)]
    exact hb3.block g h1
  have kn : OwnAt w4 wr.heap.size 0 [a, b] := by
    have h1 := (own_pair wr a b t1 wr.heap.size rfl).block (w' := (wr.alloc (.cells #[.int .i64 a, .int .i64 b] t1)).alloc (.cells #[.slice (some ⟨wr.heap.size, 0, none⟩) 2 2] t2)) ((below_alloc _ _).block _ (by simp))
    exact h1.block (hgrow.block _ (by rw [hs3]; omega) (fun q => by have := (hv _ q.symm).2; omega))
  have hlt : ∀ k, k < (ps ++ [[a, b]]).length → k < ps.length ∨ k = ps.length := fun k hk => by
    rw [List.length_append] at hk
    have : k < ps.length + 1 := hk
    omega
  refine ⟨⟨by simp [hl], fun k hk => ?_, ?_, fun k hk => ?_, fun k hk => ?_, fun k hk => ?_, fun k hk => ?_, fun k l hkl hl' => ?_, fun k hk => ?_⟩, ?_⟩
  · rcases hlt k hk with g | rfl
    · rw [it_snoc_lt (by omega), it_snoc_lt g]
      exact h.val k g
    · rw [it_snoc_eq, ← hl, it_snoc_eq]
  · rw [List.length_append, List.flatMap_append]
    exact hown
  · rcases hlt k hk with g | rfl
    · rw [it_snoc_lt (by omega), if_neg (by omega)]
      exact h.adr k g
    · rw [← hl, it_snoc_eq, if_pos rfl]
  · rcases hlt k hk with g | rfl
    · rw [it_snoc_lt (by omega), if_neg (by omega)]
      exact (h.each k g).block (kb _ (h.hi k g) (h.ne k g))
    · rw [if_pos rfl, ← hl, it_snoc_eq]
      exact kn
  · rcases hlt k hk with g | rfl
    · rw [if_neg (by omega)]
      exact h.lo k g
    · rw [if_pos rfl]
      exact hbs
  · rcases hlt k hk with g | rfl
    · rw [if_neg (by omega)]
      have := h.hi k g
      omega
    · rw [if_pos rfl]
      omega
  · rcases hlt l hl' with g | rfl
    · rw [if_neg (by omega), if_neg (by omega)]
      exact h.inj k l hkl g
    · rw [if_neg (by omega), if_pos rfl]
      have := h.hi k hkl
      omega
  · rcases hlt k hk with g | rfl
    · rw [if_neg (by omega)]
      rcases hat with e | e
      · rw [e]
        exact h.ne k g
      · rw [e]
        intro q
        injection q with q
        have := h.hi k g
        omega
    · rw [if_pos rfl]
      rcases hat with e | e
      · rw [e]
        intro q
        have := (hv _ q).2
        omega
      · rw [e]
        intro q
        injection q with q
        omega
  · exact Below.grown (hb.trans (hb3.mono hbs)) hgrow (by rw [hs3]; omega) (fun m e => (hv m e).1)
/-- What has been built, as a list that the call owns. -/
theorem NAp.done {w1 wr : World} {v : Value} {ps : List (List Int)} {ys : List (Rw Int)} {s : Nat → Nat} (h : NAp w1 wr v ps ys s) :
    ∃ y : Rw (Rw Int), v = .slice y.A y.xs.length y.c ∧ y.xs.length = ps.length ∧ (∀ k, k < ps.length → (it y.xs k).xs = it ps k) ∧ Nst.Own (iv w1.heap.size wr.heap.size) wr y := by
  have hl := h.len
  have hr := h.row
  rcases hr.2 with ⟨hv, h0⟩ | ⟨g, cap, cur, rfl, h3, h4, h5⟩
  · have hy : ys = [] := List.eq_nil_of_length_eq_zero h0
    refine ⟨⟨none, 0, ys⟩, by rw [hv, hy]; rfl, hl, h.val, 0, fun _ _ => False, Owned.mono (S := fun i => i = 0) (by rw [hy]; exact Owned.nil _ _ _) (fun _ h => h), fun i hi => absurd hi (by show ¬ i < ys.length; omega), fun i hi h => h, fun i j x _ _ h => h.elim, fun hp => absurd hp (by show ¬ 0 < ys.length; omega), fun i x _ h => h.elim⟩
  · have hlt := hr.lt g rfl
    refine ⟨⟨some ⟨g, 0, none⟩, cap, ys⟩, rfl, hl, h.val, g, fun k i => i = s k, fun _ => ⟨g, 0, rfl, rfl, hlt.2, own_of_row ys hr⟩, fun k hk => ?_, fun k hk e => ?_, fun k l x hkl hll e1 e2 => ?_, fun _ => hlt, fun k x hk e => ?_⟩
    · have hk' : k < ps.length := by rw [← hl]; exact hk
      show Owned (fun i => i = s k) wr (it ys k).A (it ys k).xs
      rw [h.adr k hk']
      exact fun _ => ⟨_, 0, rfl, rfl, h.hi k hk', h.each k hk'⟩
    · have hk' : k < ps.length := by rw [← hl]; exact hk
      exact h.ne k hk' (by rw [← e]; rfl)
    · have hl' : l < ps.length := by rw [← hl]; exact hll
      exact h.inj k l hkl hl' (e1.symm.trans e2)
    · have hk' : k < ps.length := by rw [← hl]; exact hk
      rw [e]
      exact ⟨h.lo k hk', h.hi k hk'⟩
end Go.Proofs.Ytbhfhjhegcfdkaa
