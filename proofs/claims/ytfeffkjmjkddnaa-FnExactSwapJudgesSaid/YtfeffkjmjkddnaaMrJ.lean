/- Rows built by append, and copied: where they lie. -/
import Derived.Test.YtfeffkjmjkddnaaMrG
import Derived.Test.YtfeffkjmjkddnaaHdF
namespace Go.Proofs.Ytfeffkjmjkddnaa
open Go.ChangeShapes Go.WideShapes Go.ChangeAt Go.RowKit Go.Lib Go.Proofs Go.PlainAid
set_option linter.unusedVariables false

structure NAp (w1 wr : World) (v : Value) (ps : List (List Int)) (ys : List (Rw Int)) (s : Nat → Nat) : Prop where
  len : ys.length = ps.length
  val : ∀ k, k < ps.length → (it ys k).xs = it ps k
  row : wr.ownsRow w1.heap.size 34 1 v ys.length (ys.flatMap Flat.cells)
  adr : ∀ k, k < ps.length → (it ys k).A = some ⟨s k, 0, none⟩
  each : ∀ k, k < ps.length → OwnAt wr (s k) 0 (it ys k).xs
  lo : ∀ k, k < ps.length → w1.heap.size ≤ s k
  hi : ∀ k, k < ps.length → s k < wr.heap.size
  inj : ∀ k l, k < l → l < ps.length → s k ≠ s l
  ne : ∀ k, k < ps.length → v.ownBlock ≠ some (s k)
theorem NAp.zero (w1 wr : World) : NAp w1 wr (.slice none 0 0) [] [] (fun _ => 0) :=
  ⟨rfl, fun k hk => absurd hk (by simp), ⟨rfl, .inl ⟨rfl, rfl⟩⟩, fun k hk => absurd hk (by simp), fun k hk => absurd hk (by simp), fun k hk => absurd hk (by simp), fun k hk => absurd hk (by simp), fun k l _ hl => absurd hl (by simp), fun k hk => absurd hk (by simp)⟩
theorem NAp.next {w1 wr w2 : World} {v : Value} {ps : List (List Int)} {ys : List (Rw Int)} {s : Nat → Nat} (h : NAp w1 wr v ps ys s) (hb : Below wr.heap.size wr w2) : NAp w1 w2 v ps ys s :=
  ⟨h.len, h.val, own_next h.row hb, h.adr, fun k hk => (h.each k hk).block (hb.block _ (h.hi k hk)), h.lo, fun k hk => Nat.lt_of_lt_of_le (h.hi k hk) hb.size, h.inj, h.ne⟩
theorem it_snoc_lt {α : Type} [Inhabited α] {xs : List α} {x : α} {k : Nat} (h : k < xs.length) : it (xs ++ [x]) k = it xs k := by
  unfold it
  rw [List.getD_eq_getElem?_getD, List.getD_eq_getElem?_getD, List.getElem?_append_left h]
theorem it_snoc_eq {α : Type} [Inhabited α] {xs : List α} {x : α} : it (xs ++ [x]) xs.length = x := by
  unfold it
  rw [List.getD_eq_getElem?_getD, List.getElem?_append_right (Nat.le_refl _)]
  simp
/-- What has been built, as a list that the call owns. -/
theorem NAp.done {w1 wr : World} {v : Value} {ps : List (List Int)} {ys : List (Rw Int)} {s : Nat → Nat} (h : NAp w1 wr v ps ys s) :
    ∃ y : Rw (Rw Int), v = .slice y.A y.xs.length y.c ∧ y.xs.length = ps.length ∧ (∀ k, k < ps.length → (it y.xs k).xs = it ps k) ∧ Nst.Own (iv w1.heap.size wr.heap.size) wr y := by
  have hl := h.len
  have hr := h.row
  rcases hr.2 with ⟨hv, h0⟩ | ⟨g, cap, cur, rfl, h3, h4, h5⟩
  · have hy : ys = [] := List.eq_nil_of_length_eq_zero h0
    refine ⟨⟨none, 0, ys⟩, by rw [hv, hy]; rfl, hl, h.val, 0, fun _ _ => False, Owned.mono (S := fun i => i = 0) (by rw [hy]; exact Owned.nil _ _ _) (fun _ h => h), fun i hi => absurd hi (by show ¬ i < ys.length; omega), fun i hi h => h, fun i j x _ _ h => h.elim, fun hp => absurd hp (by show ¬ 0 < ys.length; omega), fun i x _ h => h.elim⟩
  · have hlt := hr.lt g rfl
    refine ⟨⟨some ⟨g, 0, none⟩, cap, ys⟩, rfl, hl, h.val, g, fun k i => i = s k, fun _ => ⟨g, 0, rfl, rfl, hlt.2, own_of_row ys hr⟩, fun k hk => ?_, fun k hk e => ?_, fun k l x hkl hll e1 e2 => ?_, fun _ => hlt, fun k x hk e => ?_⟩
    · have hk' : k < ps.length := by rw [← hl]; exact hk
      show Owned (fun i => i = s k) wr (it ys k).A (it ys k).xs
      rw [h.adr k hk']
      exact fun _ => ⟨_, 0, rfl, rfl, h.hi k hk', h.each k hk'⟩
    · have hk' : k < ps.length := by rw [← hl]; exact hk
      exact h.ne k hk' (by rw [← e]; rfl)
    · have hl' : l < ps.length := by rw [← hl]; exact hll
      exact h.inj k l hkl hl' (e1.symm.trans e2)
    · have hk' : k < ps.length := by rw [← hl]; exact hk
      rw [e]
      exact ⟨h.lo k hk', h.hi k hk'⟩
/-- One row more. -/
theorem NAp.more {w1 wr w4 w5 : World} {v v1 : Value} {ps : List (List Int)} {ys : List (Rw Int)} {s : Nat → Nat} {l : List Int} {g1 c1 : Nat} {ob : Obj} (h : NAp w1 wr v ps ys s) (hbs : w1.heap.size ≤ wr.heap.size)
    (hb4 : Below wr.heap.size wr w4) (hl1 : wr.heap.size ≤ g1) (hl2 : g1 < w4.heap.size) (hO : OwnAt w4 g1 0 l)
    (hown : w5.ownsRow w1.heap.size 34 1 v1 (ys.length + 1) (ys.flatMap Flat.cells ++ [.slice (some ⟨g1, 0, none⟩) l.length c1]))
    (hgrow : (w4.alloc ob).grownBy w5 v.ownBlock) (hat : v1.ownBlock = v.ownBlock ∨ v1.ownBlock = some (w4.heap.size + 1)) :
    NAp w1 w5 v1 (ps ++ [l]) (ys ++ [⟨some ⟨g1, 0, none⟩, c1, l⟩]) (fun k => if k = ps.length then g1 else s k) ∧ Only (fun i => v.ownBlock = some i) wr w5 := by
  have hl := h.len
  have hs3 : (w4.alloc ob).heap.size = w4.heap.size + 1 := by simp
  have hsz := hgrow.size
  rw [hs3] at hsz
  have hb4s := hb4.size
  have hv : ∀ m, v.ownBlock = some m → w1.heap.size ≤ m ∧ m < wr.heap.size := fun m e => h.row.lt m e
  have hb3 : Below wr.heap.size wr (w4.alloc ob) := below_next hb4 (below_alloc _ _)
  have kb : ∀ g, g < wr.heap.size → v.ownBlock ≠ some g → w5.heap[g]? = wr.heap[g]? := fun g h1 h2 => by
    rw [hgrow.block g (by rw [hs3]; omega) (fun q => h2 q.symm)]
    exact hb3.block g h1
  have kn : OwnAt w5 g1 0 l := by
    have h1 := hO.block ((below_alloc w4 ob).block _ hl2)
    exact h1.block (hgrow.block _ (by rw [hs3]; omega) (fun q => by have := (hv _ q.symm).2; omega))
  have hlt : ∀ k, k < (ps ++ [l]).length → k < ps.length ∨ k = ps.length := fun k hk => by
    rw [List.length_append] at hk
    have : k < ps.length + 1 := hk
    omega
  refine ⟨⟨by simp [hl], fun k hk => ?_, ?_, fun k hk => ?_, fun k hk => ?_, fun k hk => ?_, fun k hk => ?_, fun k l hkl hl' => ?_, fun k hk => ?_⟩, ?_⟩
  · rcases hlt k hk with g | rfl
    · rw [it_snoc_lt (by omega), it_snoc_lt g]
      exact h.val k g
    · rw [it_snoc_eq, ← hl, it_snoc_eq]
  · rw [List.length_append, List.flatMap_append]
    exact hown
  · rcases hlt k hk with g | rfl
    · rw [it_snoc_lt (by omega), if_neg (by omega)]
      exact h.adr k g
    · rw [← hl, it_snoc_eq, if_pos rfl]
  · rcases hlt k hk with g | rfl
    · rw [it_snoc_lt (by omega), if_neg (by omega)]
      exact (h.each k g).block (kb _ (h.hi k g) (h.ne k g))
    · rw [if_pos rfl, ← hl, it_snoc_eq]
      exact kn
  · rcases hlt k hk with g | rfl
    · rw [if_neg (by omega)]
      exact h.lo k g
    · rw [if_pos rfl]
      omega
  · rcases hlt k hk with g | rfl
    · rw [if_neg (by omega)]
      have := h.hi k g
      omega
    · rw [if_pos rfl]
      omega
  · rcases hlt l hl' with g | rfl
    · rw [if_neg (by omega), if_neg (by omega)]
      exact h.inj k l hkl g
    · rw [if_neg (by omega), if_pos rfl]
      have := h.hi k hkl
      omega
  · rcases hlt k hk with g | rfl
    · rw [if_neg (by omega)]
      rcases hat with e | e
      · rw [e]
        exact h.ne k g
      · rw [e]
        intro q
        injection q with q
        have := h.hi k g
        omega
    · rw [if_pos rfl]
      rcases hat with e | e
      · rw [e]
        intro q
        have := (hv _ q).2
        omega
      · rw [e]
        intro q
        injection q with q
        omega
  · have hB := Below.grown (B := w1.heap.size) (hb3.mono hbs) hgrow (by rw [hs3]; omega) (fun m e => (hv m e).1)
    exact ⟨hB.os, hB.tape, hB.output, hB.size, fun i hi hn => kb i hi hn⟩
/-- A cell below is written. -/
theorem NAp.low {w1 wr : World} {v : Value} {ps : List (List Int)} {ys : List (Rw Int)} {s : Nat → Nat} (h : NAp w1 wr v ps ys s) (p : Addr) (hp : p.block < w1.heap.size) (u : Value) : NAp w1 (wr.setCell p u) v ps ys s := by
  have hk : ∀ i, w1.heap.size ≤ i → (wr.setCell p u).heap[i]? = wr.heap[i]? := fun i hi => Below.heap_setCell _ _ _ _ (by omega)
  exact ⟨h.len, h.val, own_heap h.row (fun k e => hk k (h.row.lt k e).1), h.adr, fun k hk' => (h.each k hk').block (hk _ (h.lo k hk')), h.lo, fun k hk' => by simpa [World.setCell] using h.hi k hk', h.inj, h.ne⟩
/-- The rows of a list. -/
def rwsTo (r : Rw (Rw Int)) (i : Nat) : List (List Int) := (r.xs.take i).map (·.xs)
theorem rwsTo_len (r : Rw (Rw Int)) (i : Nat) (hi : i ≤ r.xs.length) : (rwsTo r i).length = i := by
  simp [rwsTo]
  omega
theorem rwsTo_succ (r : Rw (Rw Int)) (i : Nat) (hi : i < r.xs.length) : rwsTo r (i + 1) = rwsTo r i ++ [(it r.xs i).xs] := by
  unfold rwsTo
  rw [List.take_add_one, it_get r.xs i hi]
  simp
theorem rwsTo_it (r : Rw (Rw Int)) (i : Nat) (hi : i < r.xs.length) : it (rwsTo r r.xs.length) i = (it r.xs i).xs := by
  unfold rwsTo
  rw [List.take_length]
  have := it_get r.xs i hi
  unfold it at this ⊢
  rw [List.getD_eq_getElem?_getD, List.getElem?_map, this]
  rfl
/-- All rows are copied. -/
theorem NAp.all {w1 wr : World} {v : Value} {r : Rw (Rw Int)} {ys : List (Rw Int)} {s : Nat → Nat} (h : NAp w1 wr v (rwsTo r r.xs.length) ys s) :
    ∃ y : Rw (Rw Int), v = .slice y.A y.xs.length y.c ∧ Nst.Eqv r y ∧ Nst.Own (iv w1.heap.size wr.heap.size) wr y := by
  obtain ⟨y, h1, h2, h3, h4⟩ := h.done
  rw [rwsTo_len r _ (Nat.le_refl _)] at h2 h3
  exact ⟨y, h1, ⟨h2, fun i hi => by
    have hi' : i < r.xs.length := hi
    show (it y.xs i).xs = (it r.xs i).xs
    rw [h3 i hi', rwsTo_it r i hi']⟩, h4⟩
theorem Only.then {S : Nat → Prop} {a b c : World} (h : Only S a b) (k : Below a.heap.size b c) : Only S a c :=
  ⟨k.os.trans h.os, k.tape.trans h.tape, k.output.trans h.output, Nat.le_trans h.size k.size, fun i hi hr => (k.block i hi).trans (h.block i hi hr)⟩
theorem row_pos {w : World} {B sz n : Nat} {e : TypeId} {v : Value} {cs : List Value} (h : w.ownsRow B e sz v n cs) (hn : 0 < n) : ∃ g cap, v = .slice (some ⟨g, 0, none⟩) n cap ∧ B ≤ g ∧ g < w.heap.size := by
  rcases h.2 with ⟨_, h0⟩ | ⟨g, cap, cur, hv, _⟩
  · omega
  · exact ⟨g, cap, hv, by subst hv; exact (h.lt g rfl).1, by subst hv; exact (h.lt g rfl).2⟩
theorem one_slice {W : World} {b : Nat} {v : Value} (h : W.cell? ⟨b, 0, none⟩ = some v) : ∀ j u, ([v] : List Value)[j]? = some u → W.cell? ((⟨b, 0, none⟩ : Addr).add j) = some u := fun j u hj => by
  match j, hj with
  | 0, hj => obtain rfl := Option.some.inj hj; exact h
theorem one_sliceC (A : Option Addr) (n c : Nat) : ∀ u ∈ [Value.slice A n c], u.oneCell' = true := fun u hu => by
  obtain rfl : u = Value.slice A n c := by simpa using hu
  rfl
theorem lst_src {w W : World} {B : Nat} {A : Option Addr} {xs : List Int} (h : Lst w B A xs) (hb : Below B w W) : 0 < xs.length → ∃ ad, A = some ad ∧ ∀ j u, (xs.map (Value.int .i64))[j]? = some u → W.cell? (ad.add j) = some u := fun hp => by
  obtain ⟨b, o, rfl, hbl, hc⟩ := h.int hp
  refine ⟨_, rfl, fun j u hj => ?_⟩
  have hj' : j < xs.length := by
    have := (List.getElem?_eq_some_iff.1 hj).1
    simpa using this
  rw [List.getElem?_map, it_get xs j hj'] at hj
  have hu : Value.int .i64 (it xs j) = u := by simpa using hj
  rw [← hu]
  have hadd : (⟨b, o, none⟩ : Addr).add j = ⟨b, o + j, none⟩ := by
    unfold Addr.add
    by_cases e : j = 0 <;> simp [e]
  rw [hadd]
  exact (hb.cell (p := ⟨b, o + j, none⟩) hbl).trans (hc j hj')
theorem int_one (xs : List Int) : ∀ u ∈ xs.map (Value.int .i64), u.oneCell' = true := fun u hu => by
  obtain ⟨x, _, rfl⟩ := List.mem_map.1 hu
  rfl
theorem l1Own_any (A : Option Addr) (c : Nat) (l : List Int) (w : World) (hr : Lst w w.heap.size A l) (hl : l.length ≤ 1048576) (hp : 0 < l.length) :
    Calls Try.prog 67 #[.slice A l.length c] w fun e w' => ∃ g cap, e = .returned (.slice (some ⟨g, 0, none⟩) l.length cap) ∧ OwnAt w' g 0 l ∧ w.heap.size ≤ g ∧ g < w'.heap.size ∧ Below w.heap.size w w' := by
  obtain ⟨i0, hi, hz0, hz1, hz2⟩ := info_parts Try.infoInt
  have HZ := Lib.hid (And.intro hi (And.intro hz0 (And.intro hz1 hz2)))
  have HR := Lib.hid hr
  clear hi hz0 hz1 hz2 hr
  go_enter Try.func67, Try.ntmps67
  go_wp2_with (at_builtin; refine wpList_append_src _ rfl (.tmp 3) (.tmp 4) 34 rfl w.heap.size 3 i0 (.int .i64 0) 8 Try.underlying34 HZ.out.1 HZ.out.2.1 HZ.out.2.2.1 HZ.out.2.2.2 rfl (.slice (some ⟨w.heap.size, 0, none⟩) 0 0) 0 [] rfl (owns_emptyN _ _ _ _ _ (Nat.le_refl _) (heap_at_new _ _ _ rfl)) A l.length c (l.map (Value.int .i64)) rfl (by simp) (lst_src HR.out (below_alloc _ _)) (int_one l) (by unfold maxLen; omega) (by omega) (by simp) ?_; intro v1 w1 hown1 hgrow1 hat1; have HOWN1 := Lib.hid hown1; have HG1 := Lib.hid hgrow1; clear hown1 hgrow1 hat1)
  go_ret
  have ho : w1.ownsRow w.heap.size 3 1 v1 l.length (l.map (Value.int .i64)) := by
    have := HOWN1.out
    rwa [Nat.zero_add, List.nil_append] at this
  obtain ⟨g, cap, rfl, h1, h2⟩ := row_pos ho hp
  refine ⟨g, cap, rfl, own_of_row (α := Int) (cap := cap) (e := 3) (base := w.heap.size) l ?_, h1, h2, ?_⟩
  · rw [flatMap_int]
    exact ho
  · exact Below.grown (below_alloc _ _) HG1.out (by simp) (fun kk e => by simp [Value.ownBlock] at e; omega)
theorem slice_form {w : World} {B n sz : Nat} {e : TypeId} {v : Value} {xs : List Value} (h : w.ownsRow B e sz v n xs) : ∃ A c, v = .slice A n c := by
  rcases h.2 with ⟨hv, h0⟩ | ⟨g, cap, cur, hv, _⟩
  · exact ⟨none, 0, by rw [hv, h0]⟩
  · exact ⟨_, _, hv⟩
end Go.Proofs.Ytfeffkjmjkddnaa
