/- Rows of flags built by append, and a state of items with open reviews: where they lie. -/
import Derived.Test.YthbkfekbpjkhnaaHiF
import Derived.Test.YthbkfekbpjkhnaaRoA
namespace Go.Proofs.Ythbkfekbpjkhnaa
open Go.ChangeShapes Go.WideShapes Go.ChangeAt Go.RowKit Go.Lib Go.Proofs
set_option linter.unusedVariables false

instance : Flat Bool where
  default := false
  sz := 1
  cells := fun b => [.bool b]
  len := fun _ => rfl
theorem Try.infoBool : (Try.prog.info? 4).map (fun i => (i.zero, i.size, i.bytes)) = some (some (.bool false), 1, 1) := by kernel_rfl
theorem Try.infoRwB : (Try.prog.info? 85).map (fun i => (i.zero, i.size, i.bytes)) = some (some (.slice none 0 0), 1, 24) := by kernel_rfl
theorem OwnAt.bool0 {w : World} {g : Nat} {xs : List Bool} (h : OwnAt w g 0 xs) (i : Nat) (hi : i < xs.length) : w.cell? ⟨g, i, none⟩ = some (.bool (it xs i)) ∧ w.frozen? ⟨g, i, none⟩ = false := by
  have h1 := h.cell i hi 0 _ rfl
  have h2 := h.free i 0 hi (show 0 < Flat.sz Bool from Nat.one_pos)
  rw [show 0 + i * Flat.sz Bool + 0 = i by show 0 + i * 1 + 0 = _; omega] at h1 h2
  exact ⟨h1, h2⟩
theorem OwnAt.putBool0 {w : World} {g : Nat} {xs : List Bool} (h : OwnAt w g 0 xs) (i : Nat) (x : Bool) (hi : i < xs.length) : OwnAt (w.setCell ⟨g, i, none⟩ (.bool x)) g 0 (xs.set i x) := by
  have := h.put i x hi
  rw [show putAt g (0 + i * Flat.sz Bool) w 0 (Flat.cells x) = w.setCell ⟨g, i, none⟩ (.bool x) by
    show w.setCell ⟨g, 0 + i * 1 + 0, none⟩ (.bool x) = _
    rw [Nat.mul_one, Nat.add_zero, Nat.zero_add]] at this
  exact this
theorem it_snoc_lt' {α : Type} [Inhabited α] {xs : List α} {x : α} {k : Nat} (h : k < xs.length) : it (xs ++ [x]) k = it xs k := by
  unfold it
  rw [List.getD_eq_getElem?_getD, List.getD_eq_getElem?_getD, List.getElem?_append_left h]
theorem it_snoc_eq' {α : Type} [Inhabited α] {xs : List α} {x : α} : it (xs ++ [x]) xs.length = x := by
  unfold it
  rw [List.getD_eq_getElem?_getD, List.getElem?_append_right (Nat.le_refl _)]
  simp
/-- Rows of flags built by append, all of it in blocks from B on. -/
structure OpAp (B : Nat) (w : World) (v : Value) (os : List (Rw Bool)) (T : Nat → Nat) : Prop where
  row : w.ownsRow B 85 1 v os.length (os.flatMap Flat.cells)
  adr : ∀ k, k < os.length → (it os k).A = some ⟨T k, 0, none⟩
  each : ∀ k, k < os.length → OwnAt w (T k) 0 (it os k).xs
  lo : ∀ k, k < os.length → B ≤ T k
  hi : ∀ k, k < os.length → T k < w.heap.size
  inj : ∀ k l, k < l → l < os.length → T k ≠ T l
  ne : ∀ k, k < os.length → v.ownBlock ≠ some (T k)
theorem OpAp.zero (B : Nat) (w : World) : OpAp B w (.slice none 0 0) [] (fun _ => 0) :=
  ⟨⟨rfl, .inl ⟨rfl, rfl⟩⟩, fun k hk => absurd hk (by simp), fun k hk => absurd hk (by simp), fun k hk => absurd hk (by simp), fun k hk => absurd hk (by simp), fun k l _ hl => absurd hl (by simp), fun k hk => absurd hk (by simp)⟩
/-- What lies below alone, or above, is turned. -/
theorem OpAp.heap {B : Nat} {w w' : World} {v : Value} {os : List (Rw Bool)} {T : Nat → Nat} (h : OpAp B w v os T) (hs : w.heap.size ≤ w'.heap.size) (hb : ∀ i, B ≤ i → i < w.heap.size → w'.heap[i]? = w.heap[i]?) : OpAp B w' v os T :=
  ⟨own_heap h.row (fun k e => hb k (h.row.lt k e).1 (h.row.lt k e).2), h.adr, fun k hk => (h.each k hk).block (hb _ (h.lo k hk) (h.hi k hk)), h.lo, fun k hk => Nat.lt_of_lt_of_le (h.hi k hk) hs, h.inj, h.ne⟩
theorem OpAp.next {B : Nat} {w w' : World} {v : Value} {os : List (Rw Bool)} {T : Nat → Nat} (h : OpAp B w v os T) (hb : Below w.heap.size w w') : OpAp B w' v os T := h.heap hb.size (fun i _ hi => hb.block i hi)
theorem OpAp.low {B : Nat} {w : World} {v : Value} {os : List (Rw Bool)} {T : Nat → Nat} (h : OpAp B w v os T) (p : Addr) (hp : p.block < B) (u : Value) : OpAp B (w.setCell p u) v os T :=
  h.heap (by simp [World.setCell]) (fun i hi _ => Below.heap_setCell _ _ _ _ (by omega))
/-- One row more. -/
theorem OpAp.push {B : Nat} {wr w2 w4 : World} {v v1 : Value} {os : List (Rw Bool)} {T : Nat → Nat} {l : List Bool} {g c : Nat} {ob : Obj} (h : OpAp B wr v os T) (hBs : B ≤ wr.heap.size) (hb : Below wr.heap.size wr w2) (hg : wr.heap.size ≤ g) (hg2 : g < w2.heap.size) (hO : OwnAt w2 g 0 l)
    (hown : w4.ownsRow B 85 1 v1 (os.length + 1) (os.flatMap Flat.cells ++ [.slice (some ⟨g, 0, none⟩) l.length c]))
    (hgrow : (w2.alloc ob).grownBy w4 v.ownBlock) (hat : v1.ownBlock = v.ownBlock ∨ v1.ownBlock = some (w2.heap.size + 1)) :
    OpAp B w4 v1 (os ++ [⟨some ⟨g, 0, none⟩, c, l⟩]) (fun k => if k = os.length then g else T k) ∧ Only (fun i => v.ownBlock = some i) wr w4 := by
  have hs3 : (w2.alloc ob).heap.size = w2.heap.size + 1 := by simp
  have hsz := hgrow.size
  rw [hs3] at hsz
  have hbs := hb.size
  have hv : ∀ m, v.ownBlock = some m → B ≤ m ∧ m < wr.heap.size := fun m e => h.row.lt m e
  have hb3 : Below wr.heap.size wr (w2.alloc ob) := below_next hb (below_alloc _ _)
  have kb : ∀ q, q < wr.heap.size → v.ownBlock ≠ some q → w4.heap[q]? = wr.heap[q]? := fun q h1 h2 => by
    rw [hgrow.block q (by rw [hs3]; omega) (fun r => h2 r.symm)]
    exact hb3.block q h1
  have kn : OwnAt w4 g 0 l := by
    have h1 := hO.block ((below_alloc w2 ob).block _ hg2)
    exact h1.block (hgrow.block _ (by rw [hs3]; omega) (fun q => by have := (hv _ q.symm).2; omega))
  have hlt : ∀ {k}, k < (os ++ [(⟨some ⟨g, 0, none⟩, c, l⟩ : Rw Bool)]).length → k < os.length ∨ k = os.length := fun {k} hk => by
    rw [List.length_append] at hk
    have : k < os.length + 1 := hk
    omega
  refine ⟨⟨?_, fun k hk => ?_, fun k hk => ?_, fun k hk => ?_, fun k hk => ?_, fun k q hkq hq => ?_, fun k hk => ?_⟩, ?_⟩
  · rw [List.length_append, List.flatMap_append]
    exact hown
  · rcases hlt hk with q | rfl
    · rw [it_snoc_lt' q, if_neg (by omega)]
      exact h.adr k q
    · rw [it_snoc_eq', if_pos rfl]
  · rcases hlt hk with q | rfl
    · rw [it_snoc_lt' q, if_neg (by omega)]
      exact (h.each k q).block (kb _ (h.hi k q) (h.ne k q))
    · rw [it_snoc_eq', if_pos rfl]
      exact kn
  · rcases hlt hk with q | rfl
    · rw [if_neg (by omega)]
      exact h.lo k q
    · rw [if_pos rfl]
      omega
  · rcases hlt hk with q | rfl
    · rw [if_neg (by omega)]
      have := h.hi k q
      omega
    · rw [if_pos rfl]
      omega
  · rcases hlt hq with r | rfl
    · rw [if_neg (by omega), if_neg (by omega)]
      exact h.inj k q hkq r
    · rw [if_neg (by omega), if_pos rfl]
      have := h.hi k hkq
      omega
  · rcases hlt hk with q | rfl
    · rw [if_neg (by omega)]
      rcases hat with e | e
      · rw [e]
        exact h.ne k q
      · rw [e]
        intro r
        injection r with r
        have := h.hi k q
        omega
    · rw [if_pos rfl]
      rcases hat with e | e
      · rw [e]
        intro r
        have := (hv _ r).2
        omega
      · rw [e]
        intro r
        injection r with r
        omega
  · have hBB := Below.grown (B := B) (hb3.mono (by omega)) hgrow (by rw [hs3]; omega) (fun m e => (hv m e).1)
    exact ⟨hBB.os, hBB.tape, hBB.output, hBB.size, fun i hi hn => kb i hi hn⟩
/-- A flag stored. -/
def setFl (r : Rw Bool) (n : Nat) (b : Bool) : Rw Bool := ⟨r.A, r.c, r.xs.set n b⟩
theorem OpAp.put {B : Nat} {w : World} {v : Value} {os : List (Rw Bool)} {T : Nat → Nat} (h : OpAp B w v os T) (i n : Nat) (hi : i < os.length) (hn : n < (it os i).xs.length) (b : Bool) : OpAp B (w.setCell ⟨T i, n, none⟩ (.bool b)) v (os.set i (setFl (it os i) n b)) T := by
  have hb : ∀ k, k ≠ T i → (w.setCell ⟨T i, n, none⟩ (.bool b)).heap[k]? = w.heap[k]? := fun k hk => Below.heap_setCell _ _ _ _ hk
  refine ⟨?_, fun k hk => ?_, fun k hk => ?_, fun k hk => h.lo k (by simpa using hk), fun k hk => by simpa [World.setCell] using h.hi k (by simpa using hk), fun k l hkl hl => h.inj k l hkl (by simpa using hl), fun k hk => h.ne k (by simpa using hk)⟩
  · have hc : (os.set i (setFl (it os i) n b)).flatMap Flat.cells = os.flatMap Flat.cells := by
      rw [List.flatMap_def, List.flatMap_def]
      congr 1
      rw [List.map_set]
      refine List.ext_getElem (by simp) (fun k h1 h2 => ?_)
      rw [List.getElem_set]
      split
      · rename_i e
        subst e
        have h3 := it_get os i hi
        have h4 : os[i] = it os i := by
          have := List.getElem?_eq_getElem hi
          rw [this] at h3
          exact Option.some.inj h3
        rw [List.getElem_map, h4]
        show [Value.slice _ _ _] = [Value.slice _ _ _]
        simp [setFl]
      · rfl
    rw [List.length_set, hc]
    exact own_heap h.row (fun k e => hb k (fun q => h.ne i hi (by rw [← q]; exact e)))
  · rw [List.length_set] at hk
    rw [it_set _ _ _ _ hi]
    by_cases e : k = i
    · rw [if_pos e, e]
      exact h.adr i hi
    · rw [if_neg e]
      exact h.adr k hk
  · rw [List.length_set] at hk
    rw [it_set _ _ _ _ hi]
    by_cases e : k = i
    · subst e
      rw [if_pos rfl]
      exact (h.each k hi).putBool0 n b hn
    · rw [if_neg e]
      exact (h.each k hk).block (hb _ (by
        rcases Nat.lt_or_gt_of_ne e with q | q
        · exact h.inj k i q hi
        · exact fun r => h.inj i k q hk r.symm))
/-- The outer slice of rows. -/
theorem OpAp.form {B : Nat} {w : World} {v : Value} {os : List (Rw Bool)} {T : Nat → Nat} (h : OpAp B w v os T) : ∃ V c, v = .slice V os.length c ∧ (0 < os.length → ∃ g, V = some ⟨g, 0, none⟩ ∧ B ≤ g ∧ g < w.heap.size ∧ OwnAt w g 0 os) := by
  rcases h.row.2 with ⟨hv, h0⟩ | ⟨g, cap, cur, hv, h3, h4, h5⟩
  · exact ⟨none, 0, by rw [hv, h0], fun hp => absurd hp (by omega)⟩
  · have hlt := h.row.lt g (by rw [hv]; rfl)
    refine ⟨some ⟨g, 0, none⟩, cap, hv, fun _ => ⟨g, rfl, hlt.1, hlt.2, ?_⟩⟩
    have hr := h.row
    rw [hv] at hr
    exact own_of_row os hr
/-- The state: a box with the items and the rows of flags. -/
structure HiSt (B0 : Nat) (w : World) (bx : Nat) (R : Option Addr) (d g : Nat) (G : Nat → Nat) (ys : List Im) (v : Value) (T : Nat → Nat) (os : List (Rw Bool)) : Prop where
  c0 : w.cell? ⟨bx, 0, none⟩ = some (.slice R ys.length d)
  c1 : w.cell? ⟨bx, 1, none⟩ = some v
  fr : ∀ k, w.frozen? ⟨bx, k, none⟩ = false
  its : ImsOwn (iv B0 bx) w R g G ys
  op : OpAp (bx + 1) w v os T
  lo : B0 ≤ bx
  hi : bx < w.heap.size
theorem HiSt.next {B0 : Nat} {w w' : World} {bx : Nat} {R : Option Addr} {d g : Nat} {G : Nat → Nat} {ys : List Im} {v : Value} {T : Nat → Nat} {os : List (Rw Bool)} (h : HiSt B0 w bx R d g G ys v T os) (hb : Below w.heap.size w w') : HiSt B0 w' bx R d g G ys v T os :=
  ⟨(hb.cell (p := ⟨bx, 0, none⟩) h.hi).trans h.c0, (hb.cell (p := ⟨bx, 1, none⟩) h.hi).trans h.c1, fun k => (World.frozen?_of_block (a := ⟨bx, k, none⟩) (hb.block _ h.hi)).trans (h.fr k), h.its.next hb, h.op.next hb, h.lo, Nat.lt_of_lt_of_le h.hi hb.size⟩
/-- What the state says of the first k changes. -/
structure StIs (xs : List Im) (hs : List Cg) (k : Nat) (ys : List Im) (os : List (Rw Bool)) : Prop where
  len : ys.length = xs.length
  ns : ∀ i, i < xs.length → (it ys i).ns = (it xs i).ns
  late : ∀ i, i < xs.length → (it ys i).late = (it xs i).late
  ml : ∀ i, i < xs.length → (it ys i).ms.length = (it xs i).ns.length
  ms : ∀ i n, i < xs.length → n < (it xs i).ns.length → it (it ys i).ms n = mkS xs hs i n k
  ol : os.length = xs.length
  rl : ∀ i, i < xs.length → (it os i).xs.length = (it xs i).ns.length
  op : ∀ i n, i < xs.length → n < (it xs i).ns.length → it (it os i).xs n = opS hs i n k
def setM (y : Im) (j : Nat) (v : Int) : Im := ⟨y.A, y.c, y.L, y.d, y.ns, y.ms.set j v, y.late⟩
/-- The state behind a further change of its name. -/
theorem StIs.put {xs : List Im} {hs : List Cg} {k : Nat} {ys : List Im} {os : List (Rw Bool)} (h : StIs xs hs k ys os) (i n : Nat) (h1 : (it hs k).item = (i : Int)) (h2 : (it hs k).name = (n : Int)) (hi : i < xs.length) (hn : n < (it xs i).ns.length) :
    StIs xs hs (k + 1) (ys.set i (setM (it ys i) n (it hs k).mark)) (os.set i (setFl (it os i) n (it hs k).review)) := by
  have hl := h.len
  have ho := h.ol
  have hne : ∀ {a b : Nat}, ¬ (a = i ∧ b = n) → ¬ ((it hs k).item = (a : Int) ∧ (it hs k).name = (b : Int)) := fun {a b} hq hr => hq ⟨by have := hr.1; omega, by have := hr.2; omega⟩
  refine ⟨by rw [List.length_set]; exact hl, fun a ha => ?_, fun a ha => ?_, fun a ha => ?_, fun a b ha hb => ?_, by rw [List.length_set]; exact ho, fun a ha => ?_, fun a b ha hb => ?_⟩
  all_goals rw [it_set _ _ _ _ (by omega)]
  · by_cases e : a = i
    · rw [if_pos e, e]
      exact h.ns i hi
    · rw [if_neg e]
      exact h.ns a ha
  · by_cases e : a = i
    · rw [if_pos e, e]
      exact h.late i hi
    · rw [if_neg e]
      exact h.late a ha
  · by_cases e : a = i
    · rw [if_pos e, e]
      show ((it ys i).ms.set n _).length = _
      rw [List.length_set]
      exact h.ml i hi
    · rw [if_neg e]
      exact h.ml a ha
  · by_cases e : a = i
    · subst e
      rw [if_pos rfl]
      show it ((it ys a).ms.set n _) b = _
      rw [it_set _ _ _ _ (by have := h.ml a hi; omega)]
      by_cases e2 : b = n
      · subst e2
        rw [if_pos rfl, mkS_hit h1 h2]
      · rw [if_neg e2, mkS_miss (hne (fun q => e2 q.2))]
        exact h.ms a b ha hb
    · rw [if_neg e, mkS_miss (hne (fun q => e q.1))]
      exact h.ms a b ha hb
  · by_cases e : a = i
    · rw [if_pos e, e]
      show ((it os i).xs.set n _).length = _
      rw [List.length_set]
      exact h.rl i hi
    · rw [if_neg e]
      exact h.rl a ha
  · by_cases e : a = i
    · subst e
      rw [if_pos rfl]
      show it ((it os a).xs.set n _) b = _
      rw [it_set _ _ _ _ (by have := h.rl a hi; omega)]
      by_cases e2 : b = n
      · subst e2
        rw [if_pos rfl, opS_hit h1 h2]
      · rw [if_neg e2, opS_miss (hne (fun q => e2 q.2))]
        exact h.op a b ha hb
    · rw [if_neg e, opS_miss (hne (fun q => e q.1))]
      exact h.op a b ha hb
/-- A review leaves the marks. -/
theorem setM_same (y : Im) (n : Nat) (hn : n < y.ms.length) : setM y n (it y.ms n) = y := by
  unfold setM
  rw [show y.ms.set n (it y.ms n) = y.ms from it_ext _ _ (by rw [List.length_set]) (fun b hb => by
    rw [List.length_set] at hb
    rw [it_set _ _ _ _ hn]
    by_cases e : b = n
    · rw [if_pos e, e]
    · rw [if_neg e])]
theorem set_same {α : Type} [Inhabited α] (xs : List α) (i : Nat) (hi : i < xs.length) : xs.set i (it xs i) = xs :=
  it_ext _ _ (by rw [List.length_set]) (fun b hb => by
    rw [List.length_set] at hb
    rw [it_set _ _ _ _ hi]
    by_cases e : b = i
    · rw [if_pos e, e]
    · rw [if_neg e])
end Go.Proofs.Ythbkfekbpjkhnaa
