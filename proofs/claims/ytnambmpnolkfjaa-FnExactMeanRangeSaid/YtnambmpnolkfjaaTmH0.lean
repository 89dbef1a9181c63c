/- Copies of numbers of a call's own, and two lists of numbers joined: l1Own of the model, slices.Grow and slices.Concat. -/
import Derived.Test.YtnambmpnolkfjaaTmP
import Derived.Test.YtnambmpnolkfjaaOneSorted
import Derived.Lib.AppendZeros
namespace Go.Proofs.Ytnambmpnolkfjaa.One
open Go.ChangeShapes Go.WideShapes Go.ChangeAt Go.RowKit Go.Lib Go.Proofs
set_option linter.unusedVariables false

theorem ints_srcm {w W : World} {B : Nat} {A : Option Addr} {xs : List Int} {m : Nat} (h : Ints w B A xs) (hb : Below B w W) (hm : xs.length = m) : 0 < m → ∃ ad, A = some ad ∧ ∀ j u, (xs.map (Value.int .i64))[j]? = some u → W.cell? (ad.add j) = some u := fun hp => by
  obtain ⟨b, o, rfl, hbl, hc⟩ := h (by omega)
  refine ⟨_, rfl, fun j u hj => ?_⟩
  have hj' : j < xs.length := by
    have := (List.getElem?_eq_some_iff.1 hj).1
    simpa using this
  rw [List.getElem?_map, List.getElem?_eq_getElem hj'] at hj
  have hu : Value.int .i64 (ix xs j) = u := by
    rw [ix_get _ _ hj']
    simpa using hj
  rw [← hu]
  have hadd : (⟨b, o, none⟩ : Addr).add j = ⟨b, o + j, none⟩ := by
    unfold Addr.add
    by_cases e : j = 0 <;> simp [e]
  rw [hadd]
  exact (hb.cell (p := ⟨b, o + j, none⟩) hbl).trans (hc j hj')
theorem ints_take {w : World} {B : Nat} {A : Option Addr} {xs : List Int} (h : Ints w B A xs) (k : Nat) : Ints w B A (xs.take k) := fun hp => by
  have hp' : 0 < xs.length := by rw [List.length_take] at hp; omega
  obtain ⟨b, o, rfl, hbl, hc⟩ := h hp'
  refine ⟨b, o, rfl, hbl, fun i hi => ?_⟩
  rw [List.length_take] at hi
  have e : ix (xs.take k) i = ix xs i := by
    rw [ix_get (xs.take k) i (by rw [List.length_take]; omega), ix_get xs i (by omega), List.getElem_take]
  rw [hc i (by omega), e]
theorem ints_drop {w : World} {B b o : Nat} {xs : List Int} (h : Ints w B (some ⟨b, o, none⟩) xs) (k : Nat) : Ints w B (some ⟨b, o + k, none⟩) (xs.drop k) := fun hp => by
  rw [List.length_drop] at hp
  obtain ⟨b', o', e, hbl, hc⟩ := h (by omega)
  injection e with e
  injection e with e1 e2
  subst e1 e2
  refine ⟨b, o + k, rfl, hbl, fun i hi => ?_⟩
  rw [List.length_drop] at hi
  have e : ix (xs.drop k) i = ix xs (k + i) := by
    rw [ix_get (xs.drop k) i (by rw [List.length_drop]; omega), ix_get xs (k + i) (by omega), List.getElem_drop]
  rw [show o + k + i = o + (k + i) by omega, hc (k + i) (by omega), e]
theorem ints_none {w : World} {B : Nat} {A : Option Addr} {xs : List Int} (h : xs.length = 0) : Ints w B A xs := fun hp => absurd hp (by omega)
/-- A copy of a list in the model. -/
theorem l1Own_o (A : Option Addr) (n c : Nat) (l : List Int) (w : World) (hr : Ints w w.heap.size A l) (hn : l.length = n) (hl : n ≤ 1048576) :
    Calls Try.prog 64 #[.slice A n c] w fun e w' => ∃ v, e = .returned v ∧ w'.ownsRow w.heap.size 3 1 v n (l.map (Value.int .i64)) ∧ Below w.heap.size w w' := by
  obtain ⟨i0, hi, hz0, hz1, hz2⟩ := info_parts Try.info3
  have HZ := Lib.hid (And.intro hi (And.intro hz0 (And.intro hz1 hz2)))
  have HR := Lib.hid hr
  have HN := Lib.hid hn
  clear hi hz0 hz1 hz2 hr hn
  go_enter Try.func64, Try.ntmps64
  go_wp2_with (at_builtin; refine wpList_append_src _ rfl (.tmp 3) (.tmp 4) 22 rfl w.heap.size 3 i0 (.int .i64 0) 8 Try.underlying22 HZ.out.1 HZ.out.2.1 HZ.out.2.2.1 HZ.out.2.2.2 rfl (.slice (some ⟨w.heap.size, 0, none⟩) 0 0) 0 [] rfl (owns_empty _ _ _ _ (Nat.le_refl _) (heap_at_new _ _ _ rfl)) A n c (l.map (Value.int .i64)) rfl (by rw [List.length_map]; exact HN.out) (ints_srcm HR.out ((Below.refl _ _).alloc (Nat.le_refl _) _) HN.out) (ints_oneCell _ l) (by unfold maxLen; omega) (by omega) (by simp) ?_; intro v1 w1 hown1 hgrow1 hat1; have HOWN1 := Lib.hid hown1; have HG1 := Lib.hid hgrow1; clear hown1 hgrow1 hat1)
  go_ret
  have ho : w1.ownsRow w.heap.size 3 1 v1 n (l.map (Value.int .i64)) := by
    have := HOWN1.out
    rwa [Nat.zero_add, List.nil_append] at this
  exact ⟨v1, rfl, ho, Below.grown ((Below.refl _ _).alloc (Nat.le_refl _) _) HG1.out (by simp) (fun kk e => by simp [Value.ownBlock] at e; omega)⟩
theorem zcI_size (k : Nat) : (Builtin.zeroCells (Value.int .i64 0).cells k).size = k * 1 := by
  simp [Builtin.zeroCells, Value.cells]
set_option maxHeartbeats 1000000 in
theorem growI_any (n : Nat) (w : World) (hn : n ≤ 1048577) :
    Calls Try.prog 98 #[.slice none 0 0, .int .i64 n] w fun e w' => (∃ v, e = .returned v ∧ w'.ownsRow w.heap.size 3 1 v 0 []) ∧ Below w.heap.size w w' := by
  obtain ⟨i0, hi0, hz0, hz1, hz2⟩ := info_parts Try.info3
  rcases Nat.eq_zero_or_pos n with h0 | h0
  · subst h0
    clear hi0 hz0 hz1 hz2
    go_enter Try.func98, Try.ntmps98
    go_wp2
    go_returns
    exact ⟨⟨_, rfl, rfl, .inl ⟨rfl, rfl⟩⟩, Below.refl _ _⟩
  · have hr : ∀ ty, (Builtin.append_ #[22, 3] ty #[.slice none 0 0, .int .i64 n]).run Try.prog w = .ok (.slice (some ⟨w.heap.size, 0, none⟩) n (grownCap w n 0 3)) (w.drew.alloc (.cells (Builtin.zeroCells (Value.int .i64 0).cells n ++ Builtin.zeroCells (Value.int .i64 0).cells (grownCap w n 0 3 - n)) 3)) := fun ty =>
      Lib.run_append_nil_zeros w 22 3 ty 3 i0 (Value.int .i64 0) .i64 .i64 Try.underlying22 Try.underlying3 hi0 hz0 n h0 (by rw [hz1]; decide) (by omega) (by rw [hz2]; omega)
    obtain ⟨G, hG⟩ : ∃ G, G = grownCap w n 0 3 := ⟨_, rfl⟩
    rw [← hG] at hr
    obtain ⟨W1, hW1⟩ : ∃ W1, W1 = w.drew.alloc (.cells (Builtin.zeroCells (Value.int .i64 0).cells n ++ Builtin.zeroCells (Value.int .i64 0).cells (G - n)) 3) := ⟨_, rfl⟩
    rw [← hW1] at hr
    have hGn : n ≤ G := by rw [hG]; exact grownCap_ge w _ _ _
    have hG63 : G ≤ maxLen := by
      have := grownCap_le_maxLen w n 0 3 (by unfold maxLen; omega)
      rw [← hG] at this
      exact this
    have hrow : W1.ownsRow w.heap.size 3 1 (.slice (some ⟨w.heap.size, 0, none⟩) 0 G) 0 [] := by
      refine ⟨rfl, .inr ⟨w.heap.size, G, Builtin.zeroCells (Value.int .i64 0).cells n ++ Builtin.zeroCells (Value.int .i64 0).cells (G - n), rfl, Nat.le_refl _, ?_, Nat.zero_le _, hG63, ?_, by simp⟩⟩
      · rw [hW1]
        exact heap_at_new w.drew _ _ rfl
      · rw [Array.size_append, zcI_size, zcI_size]
        omega
    have HROW := Lib.hid hrow
    have HB1 := Lib.hid (show Below w.heap.size w W1 from by rw [hW1]; exact ((Below.refl w.heap.size w).drew.alloc (Nat.le_refl _) _))
    have HRR := Lib.hid hr
    have hG63' : G ≤ 9223372036854775807 := by unfold maxLen at hG63; exact hG63
    clear hr hrow hW1 hG hG63 hi0 hz0 hz1 hz2
    go_enter Try.func98, Try.ntmps98
    go_wp2_with (at_builtin; refine Lib.wpList_append_run _ rfl (.tmp 20) (.tmp 21) 22 3 rfl _ _ rfl rfl _ _ (HRR.out _) ?_)
    go_returns
    exact ⟨⟨_, rfl, HROW.out⟩, HB1.out⟩


/-- Two lists: the first k of them, joined. -/
def catN (xs ys : List Int) : Nat → List Int
  | 0 => []
  | 1 => xs
  | _ => xs ++ ys
set_option maxHeartbeats 2000000 in
theorem concat2_any (g cc n1 n2 : Nat) (P1 P2 : Option Addr) (xs ys : List Int) (w : World) (hg : g < w.heap.size) (h1 : ∃ c1, w.cell? ⟨g, 0, none⟩ = some (.slice P1 n1 c1)) (h2 : ∃ c2, w.cell? ⟨g, 1, none⟩ = some (.slice P2 n2 c2)) (l1 : xs.length = n1) (l2 : ys.length = n2) (i1 : Ints w w.heap.size P1 xs) (i2 : Ints w w.heap.size P2 ys) (ht : n1 + n2 ≤ 1048576) :
    Calls Try.prog 65 #[.slice (some ⟨g, 0, none⟩) 2 cc] w fun e w' => ∃ v, e = .returned v ∧ w'.ownsRow w.heap.size 3 1 v (n1 + n2) ((xs ++ ys).map (Value.int .i64)) ∧ Below w.heap.size w w' := by
  obtain ⟨i0, hi, hz0, hz1, hz2⟩ := info_parts Try.info3
  have HZ := Lib.hid (And.intro hi (And.intro hz0 (And.intro hz1 hz2)))
  obtain ⟨c1, h1⟩ := h1
  obtain ⟨c2, h2⟩ := h2
  have HC1 := Lib.hid h1
  have HC2 := Lib.hid h2
  have HL1 := Lib.hid l1
  have HL2 := Lib.hid l2
  have HI1 := Lib.hid i1
  have HI2 := Lib.hid i2
  clear hi hz0 hz1 hz2 h1 h2 l1 l2 i1 i2
  go_enter Try.func65, Try.ntmps65
  go_wp2_with fail
  go_loop [3, 11] (fun p i => (i = .int .i64 0 ∧ p = .int .i64 0) ∨ (i = .int .i64 1 ∧ p = .int .i64 (n1 : Nat)) ∨ (i = .int .i64 2 ∧ p = .int .i64 ((n1 + n2 : Nat) : Int))) (fun _ i => 2 - (intOf i).toNat)
  case atStart => exact .inl ⟨rfl, rfl⟩
  case round =>
    have q1 : ¬ ((n1 : Int) < 0) := by omega
    have q2 : ¬ ((n1 : Int) + (n2 : Int) < 0) := by omega
    rcases hrel with ⟨rfl, rfl⟩ | ⟨rfl, rfl⟩ | ⟨rfl, rfl⟩
    · have hv := HC1.out
      go_wp2
      go_round
      case rel => exact .inr (.inl ⟨by go_num, by go_num⟩)
      case measure => simp [intOf]
    · have hv := HC2.out
      go_wp2
      go_round
      case rel => exact .inr (.inr ⟨by go_num, by go_num⟩)
      case measure => simp [intOf]
    · go_wp2_with fail
      refine (growI_any (n1 + n2) w (by omega)).mono ?_
      rintro e w1 ⟨⟨v, rfl, hv⟩, hb1⟩
      have HV := Lib.hid hv
      have HB1 := Lib.hid hb1
      clear hv hb1
      go_wp2_with fail
      go_loopw [6, 27] (fun v i wr => ((i = .int .i64 0 ∧ Hid (wr.ownsRow w.heap.size 3 1 v 0 [])) ∨ (i = .int .i64 1 ∧ Hid (wr.ownsRow w.heap.size 3 1 v n1 (xs.map (Value.int .i64)))) ∨ (i = .int .i64 2 ∧ Hid (wr.ownsRow w.heap.size 3 1 v (n1 + n2) ((xs ++ ys).map (Value.int .i64))))) ∧ Hid (Below w.heap.size w wr)) (fun _ i _ => 2 - (intOf i).toNat)
      case atStart => exact ⟨.inl ⟨rfl, HV⟩, HB1⟩
      case round =>
        obtain ⟨hk, HBR⟩ := hrel
        have hbs := HBR.out.size
        rcases hk with ⟨rfl, HO⟩ | ⟨rfl, HO⟩ | ⟨rfl, HO⟩
        · have hcv := (HBR.out.cell (p := ⟨g, 0, none⟩) hg).trans HC1.out
          go_wp2_with (at_builtin; refine wpList_append_src _ rfl (.tmp 31) (.tmp 32) 22 rfl w.heap.size 3 i0 (.int .i64 0) 8 Try.underlying22 HZ.out.1 HZ.out.2.1 HZ.out.2.2.1 HZ.out.2.2.2 rfl _ 0 [] rfl HO.out P1 n1 c1 (xs.map (Value.int .i64)) rfl (by rw [List.length_map]; exact HL1.out) (ints_srcm HI1.out HBR.out HL1.out) (ints_oneCell _ xs) (by unfold maxLen; omega) (by omega) hbs ?_; intro v1 w4 hown hgrow hat)
          have hb4 : Below w.heap.size w w4 := Below.grown HBR.out hgrow hbs (fun m e => (HO.out.lt m e).1)
          have HB4 := Lib.hid hb4
          have HOWN := Lib.hid (show w4.ownsRow w.heap.size 3 1 v1 n1 (xs.map (Value.int .i64)) from by
            rw [Nat.zero_add, List.nil_append] at hown
            exact hown)
          clear hown hgrow hat hb4 hcv
          go_roundw
          case rel => exact ⟨.inr (.inl ⟨by go_num, HOWN⟩), HB4⟩
          case measure => simp [intOf]
        · have hcv := (HBR.out.cell (p := ⟨g, 1, none⟩) hg).trans HC2.out
          go_wp2_with (at_builtin; refine wpList_append_src _ rfl (.tmp 31) (.tmp 32) 22 rfl w.heap.size 3 i0 (.int .i64 0) 8 Try.underlying22 HZ.out.1 HZ.out.2.1 HZ.out.2.2.1 HZ.out.2.2.2 rfl _ n1 (xs.map (Value.int .i64)) rfl HO.out P2 n2 c2 (ys.map (Value.int .i64)) rfl (by rw [List.length_map]; exact HL2.out) (ints_srcm HI2.out HBR.out HL2.out) (ints_oneCell _ ys) (by unfold maxLen; omega) (by omega) hbs ?_; intro v1 w4 hown hgrow hat)
          have hb4 : Below w.heap.size w w4 := Below.grown HBR.out hgrow hbs (fun m e => (HO.out.lt m e).1)
          have HB4 := Lib.hid hb4
          have HOWN := Lib.hid (show w4.ownsRow w.heap.size 3 1 v1 (n1 + n2) ((xs ++ ys).map (Value.int .i64)) from by
            rw [List.map_append]
            exact hown)
          clear hown hgrow hat hb4 hcv
          go_roundw
          case rel => exact ⟨.inr (.inr ⟨by go_num, HOWN⟩), HB4⟩
          case measure => simp [intOf]
        · go_wp2
          go_ret
          exact ⟨_, rfl, HO.out, HBR.out⟩
end Go.Proofs.Ytnambmpnolkfjaa.One
