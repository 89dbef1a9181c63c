/- Items copied. -/
import Derived.Test.YtbhfhjhegcfdkaaItems
namespace Go.Proofs.Ytbhfhjhegcfdkaa
open Go.ChangeShapes Go.WideShapes Go.ChangeAt Go.RowKit
set_option linter.unusedVariables false

set_option maxHeartbeats 1000000 in
theorem toItem_any (x : Im) (w : World) (hr : ImIn w w.heap.size x) (hl : ItFits x) :
    Calls Try.prog 41 #[x.val] w fun e w' => (∃ g1 g2, e = .returned (x.cpy g1 g2).val ∧ OwnAt w' g1 0 x.ns ∧ OwnAt w' g2 0 x.ms ∧ w.heap.size ≤ g1 ∧ g1 < g2 ∧ g2 < w'.heap.size) ∧ Below w.heap.size w w' := by
  have HL := Lib.hid hl
  have HR := Lib.hid hr
  clear hr hl
  unfold Im.val
  go_enter Try.func41, Try.ntmps41
  go_wp2_with fail
  generalize hW : World.alloc (World.alloc (World.alloc w _) _) _ = W
  have hB : Below w.heap.size w W := by
    rw [← hW]
    go_grown
  have hS : W.heap.size = w.heap.size + 3 := by rw [← hW]; simp
  have hX : ImMem W w.heap.size (.slice x.A x.ns.length x.c) (.slice x.L x.ms.length x.d) (.bool x.late) := by
    rw [← hW]
    exact ((imMem_new w _ _ rfl _ _ _).below ((Below.refl _ _).alloc (Nat.le_refl _) _) (by simp)).below ((Below.refl _ _).alloc (Nat.le_refl _) _) (by simp; omega)
  have hN : ImMem W (w.heap.size + 1 + 1) (.slice none 0 0) (.slice none 0 0) (.bool false) := by
    rw [← hW]
    exact imMem_new _ _ _ (by simp) _ _ _
  have hM : ImMem W (w.heap.size + 1) (.slice none 0 0) (.slice none 0 0) (.bool false) := by
    rw [← hW]
    exact (imMem_new _ _ _ (by simp) _ _ _).below ((Below.refl _ _).alloc (Nat.le_refl _) _) (by simp)
  clear hW
  have h1 := toStringS_any x.A x.c x.ns W ((HR.out.ns.below hB (Nat.le_refl _)).up hB.size) HL.out.ns.1
  rw [hS] at h1
  refine h1.mono ?_
  rintro e w4 ⟨rfl, ho4, hs4, hb4⟩
  have hM4 := hM.below hb4 (by omega)
  have hX4 := hX.below hb4 (by omega)
  have hN4 := hN.below hb4 (by omega)
  have HN5 := Lib.hid (hN4.set0 (.slice (some ⟨w.heap.size + 3, 0, none⟩) x.ns.length x.ns.length))
  have HM5 := Lib.hid (hM4.other ⟨w.heap.size + 1 + 1, 0, none⟩ (by simp) (.slice (some ⟨w.heap.size + 3, 0, none⟩) x.ns.length x.ns.length))
  have HX5 := Lib.hid (hX4.other ⟨w.heap.size + 1 + 1, 0, none⟩ (by simp; omega) (.slice (some ⟨w.heap.size + 3, 0, none⟩) x.ns.length x.ns.length))
  obtain ⟨n0, n1, n2, nf⟩ := hN4
  have m1 := hX4.c1
  have HB5 := Lib.hid (show Below w.heap.size w (w4.setCell ⟨w.heap.size + 1 + 1, 0, none⟩ (.slice (some ⟨w.heap.size + 3, 0, none⟩) x.ns.length x.ns.length)) from (hB.trans (hb4.mono (by omega))).setCell (by simp; omega) _)
  have HO5 := Lib.hid (show OwnAt (w4.setCell ⟨w.heap.size + 1 + 1, 0, none⟩ (.slice (some ⟨w.heap.size + 3, 0, none⟩) x.ns.length x.ns.length)) (w.heap.size + 3) 0 x.ns from ho4.block (Below.heap_setCell _ _ _ _ (by simp)))
  clear hM4 hX4 hM hX hN hb4 ho4 h1 hB
  go_wp2_with fail
  have hs5 : (w4.setCell ⟨w.heap.size + 1 + 1, 0, none⟩ (.slice (some ⟨w.heap.size + 3, 0, none⟩) x.ns.length x.ns.length)).heap.size = w4.heap.size := by simp [World.setCell]
  revert HN5 HM5 HX5 HB5 HO5
  generalize World.setCell w4 _ _ = w5 at hs5 ⊢
  intro HN5 HM5 HX5 HB5 HO5
  clear n0 n1 n2 nf m1
  refine (toIntS_any x.L x.d x.ms w5 ((HR.out.ms.below HB5.out (Nat.le_refl _)).up HB5.out.size) HL.out.ms).mono ?_
  rintro e w6 ⟨rfl, ho6, hs6, hb6⟩
  have HN6 := Lib.hid (HN5.out.below hb6 (by omega))
  have HM6 := Lib.hid (HM5.out.below hb6 (by omega))
  have HX6 := Lib.hid (HX5.out.below hb6 (by omega))
  have HO6 := Lib.hid ho6
  have HE6 := Lib.hid (HO5.out.block (hb6.block _ (by omega)))
  have HB6 := Lib.hid (HB5.out.trans (hb6.mono (by omega)))
  have q3 : Hid (w.heap.size + 1 + 1 < w6.heap.size ∧ w.heap.size + 3 < w5.heap.size ∧ w5.heap.size < w6.heap.size) := Lib.hid (by omega)
  clear hb6 ho6 HN5 HM5 HX5 HB5 HO5 hs4 hS HR HL hs5
  generalize hg2 : w5.heap.size = g2 at HO6 q3 hs6 ⊢
  generalize hg1 : w.heap.size + 3 = g1 at HN6 HE6 q3 ⊢
  generalize hq2 : w.heap.size + 1 + 1 = b2 at HN6 q3 ⊢
  generalize hq1 : w.heap.size + 1 = b1 at HM6 ⊢
  generalize hq0 : w.heap.size = b0 at HX6 ⊢
  have q0 := Lib.hid hq0
  have q1 : Hid (b0 + 1 = b1) := Lib.hid (by omega)
  have q2 : Hid (b0 + 1 + 1 = b2) := Lib.hid (by omega)
  have q4 : Hid (b0 + 3 = g1) := Lib.hid (by omega)
  have e1 : (b0 = b2) = False := by simp; omega
  have e2 : (b1 = b2) = False := by simp; omega
  have e3 : (b2 = b1) = False := by simp; omega
  have e4 : (b2 = b0) = False := by simp; omega
  clear hq0 hq1 hq2 hg1 hg2 hs6
  obtain ⟨n0, n1, n2, nf⟩ := HN6.out
  obtain ⟨m0, m1, m2, mf⟩ := HM6.out
  have x2 := HX6.out.c2
  go_wp2_with fail
  generalize hw8 : (World.setCell (World.setCell (World.setCell (World.setCell (World.setCell w6 _ _) _ _) _ _) _ _) _ _) = w8
  have hn8 : ImMem w8 b1 (.slice (some ⟨g1, 0, none⟩) x.ns.length x.ns.length) (.slice (some ⟨g2, 0, none⟩) x.ms.length x.ms.length) (.bool x.late) := by
    have hq : b2 ≠ b1 := by rw [Ne, e3]; simp
    rw [← hw8]
    exact ((((HM6.out.other _ hq _).other _ hq _).set0 _).set1 _).set2 _
  have ht : Only (fun i => i = b1 ∨ i = b2) w6 w8 := by
    rw [← hw8]
    exact (((((Only.refl _ w6).put b2 1 (.inr rfl) _).put b2 2 (.inr rfl) _).put b1 0 (.inl rfl) _).put b1 1 (.inl rfl) _).put b1 2 (.inl rfl) _
  clear hw8 n0 n1 n2 nf m0 m1 m2 mf x2
  obtain ⟨m0, m1, m2, mf⟩ := hn8
  have hq := q0.out
  have h1 := q1.out
  have h2 := q2.out
  have h4 := q4.out
  obtain ⟨h3, h5, h6⟩ := q3.out
  refine bodyPost_ret (v := .agg #[.slice (some ⟨g1, 0, none⟩) x.ns.length x.ns.length, .slice (some ⟨g2, 0, none⟩) x.ms.length x.ms.length, .bool x.late]) (by simp [results, Try.results41, go_sem, m0, m1, m2]) rfl ?_
  refine ⟨⟨g1, g2, rfl, HE6.out.block (ht.block _ (by omega) (by omega)), HO6.out.block (ht.block _ (by omega) (by omega)), by omega, by omega, ?_⟩, HB6.out.trans (ht.below (by have := HB6.out.size; omega) (by omega))⟩
  exact Nat.lt_of_lt_of_le h6 ht.size

/-- The three cells of an item that may be written. -/
structure ImOwn (w : World) (b o : Nat) (x : Im) : Prop extends ImAt w b o x where
  f0 : w.frozen? ⟨b, o, none⟩ = false
  f1 : w.frozen? ⟨b, o + 1, none⟩ = false
  f2 : w.frozen? ⟨b, o + 2, none⟩ = false
theorem OwnAt.im0 {w : World} {g : Nat} {xs : List Im} (h : OwnAt w g 0 xs) (i : Nat) (hi : i < xs.length) : ImOwn w g (i * 3) (it xs i) := by
  have h1 := h.cell i hi
  have h2 := fun j => h.free i j hi
  rw [Nat.zero_add] at h1 h2
  exact ⟨imAt h1, h2 0 (by decide), h2 1 (by decide), h2 2 (by decide)⟩
theorem OwnAt.im {w : World} {g o : Nat} {xs : List Im} (h : OwnAt w g o xs) (i : Nat) (hi : i < xs.length) : ImOwn w g (o + i * 3) (it xs i) := by
  have h1 := h.cell i hi
  have h2 := fun j => h.free i j hi
  exact ⟨imAt h1, h2 0 (by decide), h2 1 (by decide), h2 2 (by decide)⟩

/-- The items xs, with their slices in blocks of their own. -/
def Cpy (xs : List Im) (G : Nat → Nat) (k : Nat) (ys : List Im) : Prop := ∀ i, i < k → it ys i = (it xs i).cpy (G (2 * i)) (G (2 * i + 1))
/-- Different blocks from B on, below T. -/
structure Apart (G : Nat → Nat) (B T n : Nat) : Prop where
  lo : ∀ i, i < n → B ≤ G i
  hi : ∀ i, i < n → G i < T
  ne : ∀ i j, i < j → j < n → G i ≠ G j
/-- The slices of the first k items. -/
structure OwnTo (w : World) (xs : List Im) (G : Nat → Nat) (k : Nat) : Prop where
  ns : ∀ i, i < k → OwnAt w (G (2 * i)) 0 (it xs i).ns
  ms : ∀ i, i < k → OwnAt w (G (2 * i + 1)) 0 (it xs i).ms
theorem OwnTo.keep {w w' : World} {xs : List Im} {G : Nat → Nat} {k : Nat} {S : Nat → Prop} (h : OwnTo w xs G k) (ho : Only S w w') (hlt : ∀ i, i < 2 * k → G i < w.heap.size) (hs : ∀ i, i < 2 * k → ¬ S (G i)) : OwnTo w' xs G k :=
  ⟨fun i hi => (h.ns i hi).block (ho.block _ (hlt _ (by omega)) (hs _ (by omega))), fun i hi => (h.ms i hi).block (ho.block _ (hlt _ (by omega)) (hs _ (by omega)))⟩
/-- Two more blocks. -/
def grow2 (G : Nat → Nat) (k g1 g2 : Nat) : Nat → Nat := fun i => if i < 2 * k then G i else if i = 2 * k then g1 else g2
theorem grow2_lt {G : Nat → Nat} {k g1 g2 i : Nat} (h : i < 2 * k) : grow2 G k g1 g2 i = G i := by simp [grow2, h]
theorem grow2_0 (G : Nat → Nat) (k g1 g2 : Nat) : grow2 G k g1 g2 (2 * k) = g1 := by simp [grow2]
theorem grow2_1 (G : Nat → Nat) (k g1 g2 : Nat) : grow2 G k g1 g2 (2 * k + 1) = g2 := by
  unfold grow2
  rw [if_neg (by omega), if_neg (by omega)]
theorem Apart.grow {G : Nat → Nat} {B T T' k g1 g2 : Nat} (h : Apart G B T (2 * k)) (hB : B ≤ T) (h1 : T ≤ g1) (h2 : g1 < g2) (h3 : g2 < T') : Apart (grow2 G k g1 g2) B T' (2 * (k + 1)) := by
  have hv : ∀ i, i < 2 * (k + 1) → (i < 2 * k ∧ grow2 G k g1 g2 i = G i) ∨ (i = 2 * k ∧ grow2 G k g1 g2 i = g1) ∨ (i = 2 * k + 1 ∧ grow2 G k g1 g2 i = g2) := fun i hi => by
    rcases Nat.lt_trichotomy i (2 * k) with h | h | h
    · exact .inl ⟨h, grow2_lt h⟩
    · exact .inr (.inl ⟨h, h ▸ grow2_0 G k g1 g2⟩)
    · obtain rfl : i = 2 * k + 1 := by omega
      exact .inr (.inr ⟨rfl, grow2_1 G k g1 g2⟩)
  refine ⟨fun i hi => ?_, fun i hi => ?_, fun i j hij hj => ?_⟩
  · rcases hv i hi with ⟨a, e⟩ | ⟨a, e⟩ | ⟨a, e⟩ <;> rw [e]
    · exact h.lo i a
    · omega
    · omega
  · rcases hv i hi with ⟨a, e⟩ | ⟨a, e⟩ | ⟨a, e⟩ <;> rw [e]
    · have := h.hi i a
      omega
    · omega
    · omega
  · rcases hv j hj with ⟨a, e⟩ | ⟨a, e⟩ | ⟨a, e⟩ <;> rcases hv i (by omega) with ⟨a', e'⟩ | ⟨a', e'⟩ | ⟨a', e'⟩ <;> rw [e, e']
    · exact h.ne i j hij a
    · omega
    · omega
    · have := h.hi i a'
      omega
    · omega
    · omega
    · have := h.hi i a'
      omega
    · omega
    · omega
theorem Apart.up {G : Nat → Nat} {B T T' n : Nat} (h : Apart G B T n) (hT : T ≤ T') : Apart G B T' n := ⟨h.lo, fun i hi => Nat.lt_of_lt_of_le (h.hi i hi) hT, h.ne⟩
theorem OwnTo.grow {w : World} {xs : List Im} {G : Nat → Nat} {k g1 g2 : Nat} (h : OwnTo w xs G k) (h1 : OwnAt w g1 0 (it xs k).ns) (h2 : OwnAt w g2 0 (it xs k).ms) : OwnTo w xs (grow2 G k g1 g2) (k + 1) := by
  refine ⟨fun i hi => ?_, fun i hi => ?_⟩
  · rcases Nat.lt_or_ge i k with h' | h'
    · rw [grow2_lt (by omega)]
      exact h.ns i h'
    · obtain rfl : i = k := by omega
      rw [grow2_0]
      exact h1
  · rcases Nat.lt_or_ge i k with h' | h'
    · rw [grow2_lt (by omega)]
      exact h.ms i h'
    · obtain rfl : i = k := by omega
      rw [grow2_1]
      exact h2
theorem Cpy.grow {xs ys : List Im} {G : Nat → Nat} {k g1 g2 : Nat} (h : Cpy xs G k ys) (hk : k < ys.length) : Cpy xs (grow2 G k g1 g2) (k + 1) (ys.set k ((it xs k).cpy g1 g2)) := fun i hi => by
  rw [it_set _ _ _ _ hk]
  by_cases e : i = k
  · subst e
    rw [if_pos rfl, grow2_0, grow2_1]
  · rw [if_neg e, grow2_lt (by omega), grow2_lt (by omega)]
    exact h i (by omega)

theorem Try.infoIm : (Try.prog.info? 56).map (fun i => (i.zero, i.size, i.bytes)) = some (some (.agg #[.slice none 0 0, .slice none 0 0, .bool false]), 3, 56) := by kernel_rfl
set_option maxHeartbeats 1000000 in
theorem toItemS_any (P : Option Addr) (c : Nat) (xs : List Im) (w : World) (hr : Ims w w.heap.size P xs) (hl : ImsFits xs) :
    Calls Try.prog 19 #[.slice P xs.length c] w fun e w' => e = .returned (.slice (some ⟨w.heap.size, 0, none⟩) xs.length xs.length) ∧ (∃ ys G, ys.length = xs.length ∧ OwnAt w' w.heap.size 0 ys ∧ Cpy xs G xs.length ys ∧ OwnTo w' xs G xs.length ∧ Apart G (w.heap.size + 1) w'.heap.size (2 * xs.length)) ∧ w.heap.size < w'.heap.size ∧ Below w.heap.size w w' := by
  have HR := Lib.hid hr
  have HF := Lib.hid hl.each
  have hl' := hl.len
  clear hr hl
  obtain ⟨i0, hi, hz0, hz1, hz2⟩ := info_parts Try.infoIm
  have HZ := Lib.hid (made_flat (α := Im) #[.slice none 0 0, .slice none 0 0, .bool false] default xs.length rfl (by decide))
  go_enter Try.func19, Try.ntmps19
  go_wp2_with (at_make; refine wpList_make_full _ rfl (.tmp 6) (.tmp 6) 28 rfl w.heap.size 56 i0 (.agg #[.slice none 0 0, .slice none 0 0, .bool false]) 3 Try.underlying28 hi hz0 hz1 .i64 .i64 _ _ xs.length rfl rfl rfl rfl (by rw [hz2]; omega) (by unfold maxLen; omega) (Nat.le_refl _) ?_; intro w1 hown hgrow)
  have HW := Lib.hid (show OwnAt w1 w.heap.size 0 (List.replicate xs.length (default : Im)) from own_of_row (α := Im) (cap := xs.length) (e := 56) (base := w.heap.size) _ (by rw [← HZ.out, List.length_replicate]; exact hown))
  have hb1 : Below w.heap.size w w1 := (Below.refl _ _).grown hgrow (Nat.le_refl _) (fun k e => by cases e)
  have hs1 := (hown.lt w.heap.size rfl).2
  have HB1 := Lib.hid hb1
  clear hown hgrow hb1
  go_loopw [4] (fun i wr => ∃ (k : Nat) (ys : List Im) (G : Nat → Nat), k ≤ xs.length ∧ i = .int .i64 k ∧ ys.length = xs.length ∧ Hid (Cpy xs G k ys) ∧ Hid (OwnAt wr w.heap.size 0 ys) ∧ Hid (OwnTo wr xs G k) ∧ Hid (Apart G (w.heap.size + 1) wr.heap.size (2 * k)) ∧ w.heap.size < wr.heap.size ∧ Below w.heap.size w wr) (fun i _ => xs.length - (intOf i).toNat)
  case atStart => exact ⟨0, _, fun _ => 0, Nat.zero_le _, rfl, by rw [List.length_replicate], Lib.hid (fun i hi => absurd hi (by omega)), HW, Lib.hid ⟨fun i hi => absurd hi (by omega), fun i hi => absurd hi (by omega)⟩, Lib.hid ⟨fun i hi => absurd hi (by omega), fun i hi => absurd hi (by omega), fun i j h hi => absurd hi (by omega)⟩, hs1, HB1.out⟩
  case round =>
    obtain ⟨k, ys, G, hk, rfl, hy, HC, HO, HT, HA, hs, hb⟩ := hrel
    by_cases hlt : k < xs.length
    · obtain ⟨b, o, rfl, hbl, hc⟩ := HR.out.out.im (by omega)
      obtain ⟨c0, c1, c2⟩ := (hc k hlt).below hb hbl
      have HE := Lib.hid ((HR.out.each k hlt).next hb)
      have HB := Lib.hid hb
      clear hc hb
      go_wp2_with (go_at_call 41; refine (toItem_any (it xs k) _ HE.out (HF.out k hlt)).mono ?_; rintro e w2 ⟨⟨g1, g2, rfl, ho1, ho2, l1, l2, l3⟩, hb2⟩; have HO2 := Lib.hid (HO.out.block (hb2.block _ hs)); have HT2 := Lib.hid ((HT.out.keep (S := fun _ => False) (Only.of_below hb2 (Nat.le_refl _)) (fun i hi => HA.out.hi i hi) (fun _ _ h => h)).grow ho1 ho2); have HA2 := Lib.hid (HA.out.grow (by omega) l1 l2 l3); have HC2 := Lib.hid (HC.out.grow (g1 := g1) (g2 := g2) (by omega)); have hs2 := Nat.lt_of_lt_of_le hs hb2.size; have HB2 := Lib.hid (below_next HB.out hb2); obtain ⟨⟨d0, d1, d2⟩, f0, f1, f2⟩ := HO2.out.im0 k (by omega); clear hb2 ho1 ho2; unfold Im.val Im.cpy)
      have HP := Lib.hid (HO2.out.put k ((it xs k).cpy g1 g2) (by omega))
      have HN := Lib.hid (putAt_only (S := fun i => i = w.heap.size) rfl (0 + k * 3) (Flat.cells ((it xs k).cpy g1 g2)) w2 w2 0 (Only.refl _ _))
      rw [Nat.zero_add] at HP HN
      go_roundw
      case rel => exact ⟨k + 1, _, grow2 G k g1 g2, by omega, by go_num, by rw [List.length_set]; exact hy, HC2, HP, Lib.hid (HT2.out.keep HN.out (fun i hi => HA2.out.hi i hi) (fun i hi e => by have := HA2.out.lo i hi; omega)), Lib.hid (HA2.out.up HN.out.size), by simpa [World.setCell] using hs2, HB2.out.trans (HN.out.below (by omega) (fun k e => Nat.le_of_eq e.symm))⟩
      case measure => simp [intOf]; omega
    · obtain rfl : k = xs.length := by omega
      go_wp2
      go_ret
      exact ⟨rfl, ⟨ys, G, hy, HO.out, HC.out, HT.out, HA.out⟩, hs, hb⟩
end Go.Proofs.Ytbhfhjhegcfdkaa
