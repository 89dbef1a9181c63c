/- Lists in lists: where they lie, what a call owns of them, what their numbers are when they are marked; lists of ints as the first of them. -/
import Derived.Test.YtfeffkjmjkddnaaDoorIntF
namespace Go.Proofs.YtfeffkjmjkddnaaDoor
open Go.ChangeShapes Go.WideShapes Go.ChangeAt Go.RowKit
set_option linter.unusedVariables false

/-- A list, and where it lies. -/
structure Rw (α : Type) where
  A : Option Addr
  c : Nat
  xs : List α
instance {α : Type} : Flat (Rw α) where
  default := ⟨none, 0, []⟩
  sz := 1
  cells := fun r => [.slice r.A r.xs.length r.c]
  len := fun _ => rfl
@[reducible] def Rw.val {α : Type} (r : Rw α) : Value := .slice r.A r.xs.length r.c
/-- A cell with a list's slice, which may be written. -/
structure RwOwn {α : Type} (w : World) (b o : Nat) (r : Rw α) : Prop where
  c0 : w.cell? ⟨b, o, none⟩ = some (.slice r.A r.xs.length r.c)
  f0 : w.frozen? ⟨b, o, none⟩ = false
section
variable {α : Type}
theorem Lst.rw {w : World} {B : Nat} {A : Option Addr} {xs : List (Rw α)} (h : Lst w B A xs) (hp : 0 < xs.length) : ∃ b o, A = some ⟨b, o, none⟩ ∧ b < B ∧ ∀ i, i < xs.length → w.cell? ⟨b, o + i, none⟩ = some (.slice (it xs i).A (it xs i).xs.length (it xs i).c) := by
  obtain ⟨b, o, h1, h2, h3⟩ := h hp
  refine ⟨b, o, h1, h2, fun i hi => ?_⟩
  have := h3 i hi 0 _ rfl
  rwa [show o + i * Flat.sz (Rw α) + 0 = o + i by show o + i * 1 + 0 = _; omega] at this
theorem OwnAt.rw {w : World} {g o : Nat} {xs : List (Rw α)} (h : OwnAt w g o xs) (i : Nat) (hi : i < xs.length) : RwOwn w g (o + i) (it xs i) := by
  have h1 := h.cell i hi 0 _ rfl
  have h2 := h.free i 0 hi (show 0 < Flat.sz (Rw α) from Nat.one_pos)
  rw [show o + i * Flat.sz (Rw α) + 0 = o + i by show o + i * 1 + 0 = _; omega] at h1 h2
  exact ⟨h1, h2⟩
theorem OwnAt.rw0 {w : World} {g : Nat} {xs : List (Rw α)} (h : OwnAt w g 0 xs) (i : Nat) (hi : i < xs.length) : RwOwn w g i (it xs i) := by
  have := h.rw i hi
  rwa [Nat.zero_add] at this
theorem OwnAt.putRw0 {w : World} {g : Nat} {xs : List (Rw α)} (h : OwnAt w g 0 xs) (i : Nat) (x : Rw α) (hi : i < xs.length) : OwnAt (w.setCell ⟨g, i, none⟩ (.slice x.A x.xs.length x.c)) g 0 (xs.set i x) := by
  have := h.put i x hi
  rw [show putAt g (0 + i * Flat.sz (Rw α)) w 0 (Flat.cells x) = w.setCell ⟨g, i, none⟩ (.slice x.A x.xs.length x.c) by
    show w.setCell ⟨g, 0 + i * 1 + 0, none⟩ (.slice x.A x.xs.length x.c) = _
    rw [Nat.mul_one, Nat.add_zero, Nat.zero_add]] at this
  exact this
end
theorem OwnAt.alike {α : Type} [Flat α] {w : World} {g o : Nat} {xs ys : List α} (h : OwnAt w g o xs) (hl : ys.length = xs.length) (he : ∀ i, i < xs.length → Flat.cells (it ys i) = Flat.cells (it xs i)) : OwnAt w g o ys :=
  ⟨fun i hi => by rw [he i (by omega)]; exact h.cell i (by omega), fun i j hi hj => h.free i j (by omega) hj⟩

def sumTo (f : Nat → Nat) : Nat → Nat
  | 0 => 0
  | n + 1 => sumTo f n + f n
theorem sumTo_le (f : Nat → Nat) {i n : Nat} (h : i ≤ n) : sumTo f i ≤ sumTo f n := by
  induction n with
  | zero =>
    obtain rfl : i = 0 := by omega
    exact Nat.le_refl _
  | succ n ih =>
    rcases Nat.lt_or_ge n i with hi | hi
    · obtain rfl : i = n + 1 := by omega
      exact Nat.le_refl _
    · have := ih hi
      simp only [sumTo]
      omega
theorem sumTo_at (f : Nat → Nat) {i n : Nat} (h : i < n) : sumTo f i + f i ≤ sumTo f n := sumTo_le f (i := i + 1) h
theorem sumTo_mono (f g : Nat → Nat) (n : Nat) (h : ∀ i, i < n → f i ≤ g i) : sumTo f n ≤ sumTo g n := by
  induction n with
  | zero => exact Nat.le_refl _
  | succ n ih =>
    have h1 := ih (fun i hi => h i (by omega))
    have h2 := h n (by omega)
    simp only [sumTo]
    omega
/-- The blocks from a on, below b. -/
def iv (a b : Nat) : Nat → Prop := fun i => a ≤ i ∧ i < b

/-- Lists of lists .. of α: as what they lie in memory, are owned, weigh, count, hold when marked from a number on, and are the same. -/
class Nst (α : Type) [Flat α] where
  In : World → Nat → Rw α → Prop
  Own : (Nat → Prop) → World → Rw α → Prop
  wt : Rw α → Nat
  cnt : Rw α → Nat
  mkd : Nat → Rw α → Rw α
  Len : Rw α → Prop
  Eqv : Rw α → Rw α → Prop
  in_below : ∀ {w w' : World} {B B' : Nat} {r : Rw α}, In w B r → Below B' w w' → B ≤ B' → In w' B r
  in_up : ∀ {w : World} {B B' : Nat} {r : Rw α}, In w B r → B ≤ B' → In w B' r
  own_keep : ∀ {S T : Nat → Prop} {w w' : World} {r : Rw α}, Own S w r → Only T w w' → (∀ i, S i → ¬ T i) → Own S w' r
  own_mono : ∀ {S T : Nat → Prop} {w : World} {r : Rw α}, Own S w r → (∀ i, S i → T i) → Own T w r
  own_in : ∀ {S : Nat → Prop} {w : World} {r : Rw α}, Own S w r → In w w.heap.size r
  cnt_le : ∀ r : Rw α, cnt r ≤ wt r
  len_le : ∀ r : Rw α, r.xs.length ≤ wt r
  mk_A : ∀ k (r : Rw α), (mkd k r).A = r.A
  mk_c : ∀ k (r : Rw α), (mkd k r).c = r.c
  mk_len : ∀ k (r : Rw α), (mkd k r).xs.length = r.xs.length
  eqv_refl : ∀ r : Rw α, Eqv r r
  eqv_symm : ∀ {r s : Rw α}, Eqv r s → Eqv s r
  eqv_trans : ∀ {r s t : Rw α}, Eqv r s → Eqv s t → Eqv r t
  eqv_len : ∀ {r s : Rw α}, Eqv r s → s.xs.length = r.xs.length
  eqv_wt : ∀ {r s : Rw α}, Eqv r s → wt s = wt r
section
variable {α : Type} [Flat α] [Nst α]
theorem Nst.next {w w' : World} {r : Rw α} (h : Nst.In w w.heap.size r) (hb : Below w.heap.size w w') : Nst.In w' w'.heap.size r := Nst.in_up (Nst.in_below h hb (Nat.le_refl _)) hb.size
theorem Nst.keepB {S : Nat → Prop} {w w' : World} {r : Rw α} (h : Nst.Own S w r) (hb : Below w.heap.size w w') : Nst.Own S w' r :=
  Nst.own_keep (T := fun _ => False) h (Only.of_below hb (Nat.le_refl _)) (fun _ _ h => h)
def NFit (r : Rw α) : Prop := Nst.wt r ≤ 1048576
end
instance : Nst Int where
  In := fun w B r => Lst w B r.A r.xs
  Own := fun S w r => Owned S w r.A r.xs
  wt := fun r => r.xs.length
  cnt := fun r => r.xs.length
  mkd := fun k r => ⟨r.A, r.c, seqF (k : Int) r.xs.length⟩
  Len := fun r => r.xs.length ≤ 9223372036854775807
  Eqv := fun r s => s.xs = r.xs
  in_below := fun h hb hB => h.below hb hB
  in_up := fun h hB => h.up hB
  own_keep := fun h k hd => h.keep k hd
  own_mono := fun h hS => h.mono hS
  own_in := fun h => h.lst
  cnt_le := fun r => Nat.le_refl _
  len_le := fun r => Nat.le_refl _
  mk_A := fun k r => rfl
  mk_c := fun k r => rfl
  mk_len := fun k r => seqF_len _ _
  eqv_refl := fun r => rfl
  eqv_symm := fun h => Eq.symm h
  eqv_trans := fun h k => k.trans h
  eqv_len := fun h => by rw [h]
  eqv_wt := fun h => by rw [h]

section
variable {α : Type} [Flat α] [Nst α]
/-- A list of lists of which a call owns all: the outer one's block, and for each inner one blocks of its own. -/
structure NOwn (S : Nat → Prop) (w : World) (A : Option Addr) (g : Nat) (T : Nat → Nat → Prop) (rs : List (Rw α)) : Prop where
  out : Owned (fun i => i = g) w A rs
  each : ∀ i, i < rs.length → Nst.Own (T i) w (it rs i)
  ne : ∀ i, i < rs.length → ¬ T i g
  inj : ∀ i j x, i < j → j < rs.length → T i x → ¬ T j x
  sg : 0 < rs.length → S g
  sT : ∀ i x, i < rs.length → T i x → S x
structure NIn (w : World) (B : Nat) (A : Option Addr) (rs : List (Rw α)) : Prop where
  out : Lst w B A rs
  each : ∀ i, i < rs.length → Nst.In w B (it rs i)
structure NEqv (rs ss : List (Rw α)) : Prop where
  len : ss.length = rs.length
  each : ∀ i, i < rs.length → Nst.Eqv (it rs i) (it ss i)
structure NLen (rs : List (Rw α)) : Prop where
  len : rs.length ≤ 9223372036854775807
  each : ∀ i, i < rs.length → Nst.Len (it rs i)
/-- The mark that the j-th list begins with. -/
def kTo (k : Nat) (rs : List (Rw α)) (j : Nat) : Nat := k + sumTo (fun i => Nst.cnt (it rs i)) j
theorem kTo_succ (k : Nat) (rs : List (Rw α)) (j : Nat) : Value.int .i64 (((kTo k rs j : Nat) : Int) + ((Nst.cnt (it rs j) : Nat) : Int)) = Value.int .i64 ((kTo k rs (j + 1) : Nat) : Int) := by
  congr 1
  unfold kTo
  simp only [sumTo]
  omega
/-- The lists of which the first j are marked. -/
def mkTo (k j : Nat) (rs : List (Rw α)) : List (Rw α) := (List.range rs.length).map fun i => if i < j then Nst.mkd (kTo k rs i) (it rs i) else it rs i
theorem mkTo_len (k j : Nat) (rs : List (Rw α)) : (mkTo k j rs).length = rs.length := by simp [mkTo]
theorem mkTo_it (k j : Nat) (rs : List (Rw α)) (i : Nat) (hi : i < rs.length) : it (mkTo k j rs) i = if i < j then Nst.mkd (kTo k rs i) (it rs i) else it rs i := by
  conv => lhs; unfold it mkTo
  simp [hi]
theorem mkTo_0 (k : Nat) (rs : List (Rw α)) : mkTo k 0 rs = rs := it_ext _ _ (mkTo_len _ _ _) (fun i hi => by
  rw [mkTo_len] at hi
  rw [mkTo_it _ _ _ _ hi, if_neg (by omega)])
theorem mkTo_cells (k j : Nat) (rs : List (Rw α)) (i : Nat) (hi : i < rs.length) : Flat.cells (it (mkTo k j rs) i) = Flat.cells (it rs i) := by
  rw [mkTo_it _ _ _ _ hi]
  split
  · show [Value.slice _ _ _] = [Value.slice _ _ _]
    rw [Nst.mk_A, Nst.mk_c, Nst.mk_len]
  · rfl
theorem NOwn.keep {S T : Nat → Prop} {w w' : World} {A : Option Addr} {g : Nat} {U : Nat → Nat → Prop} {rs : List (Rw α)} (h : NOwn S w A g U rs) (k : Only T w w') (hd : ∀ i, S i → ¬ T i) : NOwn S w' A g U rs :=
  ⟨fun hp => h.out.keep k (fun i e => by subst e; exact hd _ (h.sg hp)) hp, fun i hi => Nst.own_keep (h.each i hi) k (fun x hx => hd x (h.sT i x hi hx)), h.ne, h.inj, h.sg, h.sT⟩
/-- The step of a mark. -/
theorem NOwn.mark {S : Nat → Prop} {w w' : World} {A : Option Addr} {g : Nat} {U : Nat → Nat → Prop} {rs : List (Rw α)} {k j : Nat} (h : NOwn S w A g U (mkTo k j rs)) (hj : j < rs.length) (hm : Nst.Own (U j) w' (Nst.mkd (kTo k rs j) (it rs j))) (ho : Only (U j) w w') : NOwn S w' A g U (mkTo k (j + 1) rs) := by
  have hl := mkTo_len k j rs
  have hl' := mkTo_len k (j + 1) rs
  have hout : Owned (fun i => i = g) w' A (mkTo k j rs) := h.out.keep ho (fun i e => by subst e; exact h.ne j (by omega))
  refine ⟨fun hp => ?_, fun i hi => ?_, fun i hi => h.ne i (by omega), fun i i' x h1 h2 => h.inj i i' x h1 (by omega), fun hp => h.sg (by omega), fun i x hi => h.sT i x (by omega)⟩
  · obtain ⟨g', o, e, hs, hg, hc⟩ := hout (by omega)
    exact ⟨g', o, e, hs, hg, hc.alike (by omega) (fun i hi => by rw [mkTo_cells _ _ _ _ (by omega), mkTo_cells _ _ _ _ (by omega)])⟩
  · rw [hl'] at hi
    have h1 := h.each i (by omega)
    rw [mkTo_it _ _ _ _ hi] at h1 ⊢
    rcases Nat.lt_trichotomy i j with hij | hij | hij
    · rw [if_pos (by omega)]
      rw [if_pos hij] at h1
      exact Nst.own_keep h1 ho (fun x hx => h.inj i j x hij (by omega) hx)
    · subst hij
      rw [if_pos (by omega)]
      exact hm
    · rw [if_neg (by omega)]
      rw [if_neg (by omega)] at h1
      exact Nst.own_keep h1 ho (fun x hx hx' => h.inj j i x hij (by omega) hx' hx)

theorem NOwn.cellM {S : Nat → Prop} {w : World} {g o : Nat} {U : Nat → Nat → Prop} {rs : List (Rw α)} {k j : Nat} (h : NOwn S w (some ⟨g, o, none⟩) g U (mkTo k j rs)) (hj : j < rs.length) : w.cell? ⟨g, o + j, none⟩ = some (.slice (it rs j).A (it rs j).xs.length (it rs j).c) := by
  have hl := mkTo_len k j rs
  obtain ⟨g', o', e, hs, hg, hc⟩ := h.out (by omega)
  injection e with e
  injection e with e1 e2
  subst e1 e2
  have := (hc.rw j (by omega)).c0
  rwa [mkTo_it _ _ _ _ hj, if_neg (by omega)] at this
theorem NOwn.eachM {S : Nat → Prop} {w : World} {A : Option Addr} {g : Nat} {U : Nat → Nat → Prop} {rs : List (Rw α)} {k j : Nat} (h : NOwn S w A g U (mkTo k j rs)) (hj : j < rs.length) : Nst.Own (U j) w (it rs j) := by
  have hl := mkTo_len k j rs
  have := h.each j (by omega)
  rwa [mkTo_it _ _ _ _ hj, if_neg (by omega)] at this
theorem NIn.cellM {w : World} {B : Nat} {A : Option Addr} {rs : List (Rw α)} {k : Nat} (h : NIn w B A (mkTo k rs.length rs)) (hp : 0 < rs.length) : ∃ b o, A = some ⟨b, o, none⟩ ∧ b < B ∧ ∀ i, i < rs.length → w.cell? ⟨b, o + i, none⟩ = some (.slice (it rs i).A (it rs i).xs.length (it rs i).c) := by
  have hl := mkTo_len k rs.length rs
  obtain ⟨b, o, h1, h2, h3⟩ := h.out.rw (by omega)
  refine ⟨b, o, h1, h2, fun i hi => ?_⟩
  have := h3 i (by omega)
  rwa [mkTo_it _ _ _ _ hi, if_pos hi, Nst.mk_A, Nst.mk_c, Nst.mk_len] at this
theorem NIn.eachM {w : World} {B : Nat} {A : Option Addr} {rs : List (Rw α)} {k j : Nat} (h : NIn w B A (mkTo k rs.length rs)) (hj : j < rs.length) : Nst.In w B (Nst.mkd (kTo k rs j) (it rs j)) := by
  have hl := mkTo_len k rs.length rs
  have := h.each j (by omega)
  rwa [mkTo_it _ _ _ _ hj, if_pos hj] at this
theorem kTo_le (k : Nat) (rs : List (Rw α)) (A : Option Addr) (c : Nat) (hf : rs.length + sumTo (fun i => Nst.wt (it rs i)) rs.length ≤ 1048576) (j : Nat) (hj : j ≤ rs.length) : k ≤ kTo k rs j ∧ kTo k rs j ≤ k + 1048576 := by
  have h1 := sumTo_le (fun i => Nst.cnt (it rs i)) hj
  have h2 := sumTo_mono (fun i => Nst.cnt (it rs i)) (fun i => Nst.wt (it rs i)) rs.length (fun i _ => Nst.cnt_le _)
  unfold kTo
  omega

instance : Nst (Rw α) where
  In := fun w B r => NIn w B r.A r.xs
  Own := fun S w r => ∃ g T, NOwn S w r.A g T r.xs
  wt := fun r => r.xs.length + sumTo (fun i => Nst.wt (it r.xs i)) r.xs.length
  cnt := fun r => sumTo (fun i => Nst.cnt (it r.xs i)) r.xs.length
  mkd := fun k r => ⟨r.A, r.c, mkTo k r.xs.length r.xs⟩
  Len := fun r => NLen r.xs
  Eqv := fun r s => NEqv r.xs s.xs
  in_below := fun h hb hB => ⟨h.out.below hb hB, fun i hi => Nst.in_below (h.each i hi) hb hB⟩
  in_up := fun h hB => ⟨h.out.up hB, fun i hi => Nst.in_up (h.each i hi) hB⟩
  own_keep := fun h k hd => by
    obtain ⟨g, T, h⟩ := h
    exact ⟨g, T, h.keep k hd⟩
  own_mono := fun h hS => by
    obtain ⟨g, T, h⟩ := h
    exact ⟨g, T, h.out, h.each, h.ne, h.inj, fun hp => hS _ (h.sg hp), fun i x hi hx => hS _ (h.sT i x hi hx)⟩
  own_in := fun h => by
    obtain ⟨g, T, h⟩ := h
    exact ⟨h.out.lst, fun i hi => Nst.own_in (h.each i hi)⟩
  cnt_le := fun r => Nat.le_trans (sumTo_mono _ _ _ (fun i hi => Nst.cnt_le _)) (Nat.le_add_left _ _)
  len_le := fun r => Nat.le_add_right _ _
  mk_A := fun k r => rfl
  mk_c := fun k r => rfl
  mk_len := fun k r => mkTo_len _ _ _
  eqv_refl := fun r => ⟨rfl, fun i hi => Nst.eqv_refl _⟩
  eqv_symm := fun h => ⟨h.len.symm, fun i hi => Nst.eqv_symm (h.each i (by have := h.len; omega))⟩
  eqv_trans := fun h k => ⟨k.len.trans h.len, fun i hi => Nst.eqv_trans (h.each i hi) (k.each i (by have := h.len; omega))⟩
  eqv_len := fun h => h.len
  eqv_wt := fun {r s} h => by
    have hl := h.len
    have : ∀ n, n ≤ r.xs.length → sumTo (fun i => Nst.wt (it s.xs i)) n = sumTo (fun i => Nst.wt (it r.xs i)) n := fun n hn => by
      induction n with
      | zero => rfl
      | succ n ih =>
        simp only [sumTo]
        rw [ih (by omega), Nst.eqv_wt (h.each n (by omega))]
    show s.xs.length + _ = r.xs.length + _
    rw [hl, this _ (Nat.le_refl _)]

/-- The first k of a list of lists copied, each into blocks of its own. -/
structure NCp (g : Nat) (w : World) (rs ys : List (Rw α)) (s : Nat → Nat) (k : Nat) : Prop where
  len : ys.length = rs.length
  own : OwnAt w g 0 ys
  eqv : ∀ i, i < k → Nst.Eqv (it rs i) (it ys i)
  each : ∀ i, i < k → Nst.Own (iv (s i) (s (i + 1))) w (it ys i)
  lo : g < s 0
  mono : ∀ i, i < k → s i ≤ s (i + 1)
  top : s k ≤ w.heap.size
theorem NCp.le {g : Nat} {w : World} {rs ys : List (Rw α)} {s : Nat → Nat} {k : Nat} (h : NCp g w rs ys s k) {i j : Nat} (hij : i ≤ j) (hj : j ≤ k) : s i ≤ s j := by
  induction j with
  | zero =>
    obtain rfl : i = 0 := by omega
    exact Nat.le_refl _
  | succ j ih =>
    rcases Nat.lt_or_ge j i with hi | hi
    · obtain rfl : i = j + 1 := by omega
      exact Nat.le_refl _
    · exact Nat.le_trans (ih hi (by omega)) (h.mono j (by omega))
theorem NCp.step {g : Nat} {w w2 : World} {rs ys : List (Rw α)} {s : Nat → Nat} {k : Nat} (h : NCp g w rs ys s k) (hb : Below w.heap.size w w2) (hk : k < rs.length) (hg : g < w.heap.size) (y : Rw α) (he : Nst.Eqv (it rs k) y) (ho : Nst.Own (iv w.heap.size w2.heap.size) w2 y) :
    NCp g (w2.setCell ⟨g, k, none⟩ (.slice y.A y.xs.length y.c)) rs (ys.set k y) (fun i => if i ≤ k then s i else w2.heap.size) (k + 1) := by
  have hl := h.len
  have hbs := hb.size
  have htop := h.top
  have ho2 : Only (fun i => i = g) w2 (w2.setCell ⟨g, k, none⟩ (.slice y.A y.xs.length y.c)) := Only.setCell (S := fun i => i = g) (Only.refl _ w2) (p := ⟨g, k, none⟩) rfl _
  have hs0 : ∀ i, i ≤ k → g < s i := fun i hi => Nat.lt_of_lt_of_le h.lo (h.le (Nat.zero_le i) hi)
  refine ⟨by rw [List.length_set]; exact hl, (h.own.block (hb.block _ hg)).putRw0 k y (by omega), fun i hi => ?_, fun i hi => ?_, by simpa using h.lo, fun i hi => ?_, by
    rw [if_neg (by omega)]
    simp [World.setCell]⟩
  · rw [it_set _ _ _ _ (by omega)]
    by_cases e : i = k
    · rw [if_pos e, e]
      exact he
    · rw [if_neg e]
      exact h.eqv i (by omega)
  · rw [it_set _ _ _ _ (by omega)]
    by_cases e : i = k
    · subst e
      rw [if_pos rfl]
      simp only [Nat.le_refl, if_true]
      rw [if_neg (by omega)]
      refine Nst.own_keep (Nst.own_mono ho (T := iv (s i) w2.heap.size) (fun x hx => ⟨Nat.le_trans htop hx.1, hx.2⟩)) ho2 (fun x hx e => ?_)
      subst e
      have := hs0 i (Nat.le_refl _)
      have := hx.1
      omega
    · rw [if_neg e, if_pos (by omega), if_pos (by omega)]
      refine Nst.own_keep (Nst.keepB (h.each i (by omega)) hb) ho2 (fun x hx e => ?_)
      subst e
      have := hs0 i (by omega)
      have := hx.1
      omega
  · rcases Nat.lt_or_ge i k with hi' | hi'
    · rw [if_pos (by omega), if_pos (by omega)]
      exact h.mono i hi'
    · obtain rfl : i = k := by omega
      rw [if_pos (by omega), if_neg (by omega)]
      omega
theorem NCp.done {g : Nat} {w : World} {rs ys : List (Rw α)} {s : Nat → Nat} (h : NCp g w rs ys s rs.length) (hg : g < w.heap.size) (c : Nat) : Nst.Own (α := Rw α) (iv g w.heap.size) w ⟨some ⟨g, 0, none⟩, c, ys⟩ := by
  have hl := h.len
  refine ⟨g, fun i => iv (s i) (s (i + 1)), fun _ => ⟨g, 0, rfl, rfl, hg, h.own⟩, fun i hi => h.each i (by show i < rs.length; exact hl ▸ hi), fun i hi hx => ?_, fun i j x hij hj h1 h2 => ?_, fun _ => ⟨Nat.le_refl _, hg⟩, fun i x hi hx => ?_⟩
  · replace hi : i < ys.length := hi
    have := Nat.lt_of_lt_of_le h.lo (h.le (Nat.zero_le i) (by omega))
    have := hx.1
    omega
  · replace hj : j < ys.length := hj
    have := h.le (show i + 1 ≤ j from hij) (by omega)
    have := h1.2
    have := h2.1
    omega
  · replace hi : i < ys.length := hi
    have h1 := Nat.lt_of_lt_of_le h.lo (h.le (Nat.zero_le i) (by omega))
    have h2 := h.le (show i + 1 ≤ rs.length by omega) (Nat.le_refl _)
    have h3 := h.top
    have := hx.1
    have := hx.2
    exact ⟨by omega, by omega⟩
end
end Go.Proofs.YtfeffkjmjkddnaaDoor
