/- Copies of marks whose rows' rooms are told; a row without one of its numbers. -/
import Derived.Test.YtfeffkjmjkddnaaMrN
namespace Go.Proofs.Ytfeffkjmjkddnaa
open Go.ChangeShapes Go.WideShapes Go.ChangeAt Go.RowKit Go.Lib Go.Proofs Go.PlainAid
set_option linter.unusedVariables false

/-- The rows' rooms. -/
def NCap (q : Rw (Rw Int)) : Prop := ∀ i, i < q.xs.length → (it q.xs i).xs.length ≤ (it q.xs i).c ∧ (it q.xs i).c ≤ 9223372036854775807
structure MrCap (x : Mr) : Prop where
  g : NCap x.G
  c : NCap x.C
theorem toIntS_rc (r : Rw Int) (w : World) (hr : Nst.In w w.heap.size r) (hl : NFit r) :
    Calls Try.prog 33 #[.slice r.A r.xs.length r.c] w fun e w' => (∃ y : Rw Int, e = .returned (.slice y.A y.xs.length y.c) ∧ Nst.Eqv r y ∧ Nst.Own (iv w.heap.size w'.heap.size) w' y ∧ (y.c = y.xs.length ∧ y.xs.length ≤ 1048576)) ∧ Below w.heap.size w w' := by
  refine (toIntS_any r.A r.c r.xs w hr hl).mono ?_
  rintro e w' ⟨rfl, ho, hs, hb⟩
  exact ⟨⟨⟨some ⟨w.heap.size, 0, none⟩, r.xs.length, r.xs⟩, rfl, rfl, fun _ => ⟨w.heap.size, 0, rfl, ⟨Nat.le_refl _, hs⟩, hs, ho⟩, rfl, hl⟩, hb⟩
set_option maxHeartbeats 1000000 in
theorem toIntSS_rc (r : Rw (Rw Int)) (w : World) (hr : Nst.In w w.heap.size r) (hl : NFit r) :
    Calls Try.prog 41 #[.slice r.A r.xs.length r.c] w fun e w' => (∃ y : Rw (Rw Int), e = .returned (.slice y.A y.xs.length y.c) ∧ Nst.Eqv r y ∧ Nst.Own (iv w.heap.size w'.heap.size) w' y ∧ NCap y) ∧ Below w.heap.size w w' := by
  have hl' := nfit_len hl
  have HF := Lib.hid (nfit_each hl)
  obtain ⟨A, c, rs⟩ := r
  have HR := Lib.hid (show NIn w w.heap.size A rs from hr)
  replace hl' : rs.length ≤ 1048576 := hl'
  replace HF : Hid (∀ i, i < rs.length → NFit (it rs i)) := HF
  show Calls Try.prog 41 #[.slice A rs.length c] w _
  clear hr hl
  obtain ⟨i0, hi, hz0, hz1, hz2⟩ := info_parts Try.infoRwIntS
  have HZ := Lib.hid (made_flat (α := Rw Int) #[.slice none 0 0] default rs.length rfl (by decide))
  go_enter Try.func41, Try.ntmps41
  go_wp2_with (at_make; refine wpList_make_full _ rfl (.tmp 6) (.tmp 6) 22 rfl w.heap.size 34 i0 (.slice none 0 0) 1 Try.underlying22 hi hz0 hz1 .i64 .i64 _ _ rs.length rfl rfl rfl rfl (by rw [hz2]; omega) (by unfold maxLen; omega) (Nat.le_refl _) ?_; intro w1 hown hgrow)
  have HW := Lib.hid (show OwnAt w1 w.heap.size 0 (List.replicate rs.length (default : Rw Int)) from own_of_row (α := Rw Int) (cap := rs.length) (e := 34) (base := w.heap.size) _ (by rw [← HZ.out, List.length_replicate]; exact hown))
  have hb1 : Below w.heap.size w w1 := (Below.refl _ _).grown hgrow (Nat.le_refl _) (fun k e => by cases e)
  have hs1 := (hown.lt w.heap.size rfl).2
  have HB1 := Lib.hid hb1
  clear hown hgrow hb1
  go_loopw [4] (fun i wr => ∃ (k : Nat) (ys : List (Rw Int)) (s : Nat → Nat), k ≤ rs.length ∧ i = .int .i64 k ∧ Hid (NCp w.heap.size wr rs ys s k) ∧ Hid (∀ i, i < k → (it ys i).c = (it ys i).xs.length ∧ (it ys i).xs.length ≤ 1048576) ∧ w.heap.size < wr.heap.size ∧ Below w.heap.size w wr) (fun i _ => rs.length - (intOf i).toNat)
  case atStart => exact ⟨0, _, fun _ => w.heap.size + 1, Nat.zero_le _, rfl, Lib.hid ⟨by rw [List.length_replicate], HW.out, fun i hi => absurd hi (by omega), fun i hi => absurd hi (by omega), Nat.lt_succ_self _, fun i hi => absurd hi (by omega), hs1⟩, Lib.hid (fun i hi => absurd hi (by omega)), hs1, HB1.out⟩
  case round =>
    obtain ⟨k, ys, s, hk, rfl, HC, HQ, hs, hb⟩ := hrel
    by_cases hlt : k < rs.length
    · obtain ⟨b, o, rfl, hbl, hc⟩ := HR.out.out.rw (by omega)
      have c0 := (hb.cell (p := ⟨b, o + k, none⟩) hbl).trans (hc k hlt)
      have HE := Lib.hid (Nst.next (HR.out.each k hlt) hb)
      have HB := Lib.hid hb
      have HK := Lib.hid (show k < ys.length by have := HC.out.len; omega)
      have HY := Lib.hid HC.out.len
      clear hc hb
      go_wp2_with (go_at_call 33; refine (toIntS_rc (it rs k) _ HE.out (HF.out k hlt)).mono ?_; rintro e w2 ⟨⟨y, rfl, he, ho, hyc⟩, hb2⟩; have HC2 := Lib.hid (HC.out.step hb2 hlt hs y he ho); have hs2 := Nat.lt_of_lt_of_le hs hb2.size; have HB2 := Lib.hid (below_next HB.out hb2); obtain ⟨d0, f0⟩ := (HC.out.own.block (hb2.block _ hs)).rw0 k HK.out; have hyl : k < ys.length := HK.out; have HQ2 := Lib.hid (show ∀ i, i < k + 1 → (it (ys.set k y) i).c = (it (ys.set k y) i).xs.length ∧ (it (ys.set k y) i).xs.length ≤ 1048576 from fun i hi => by rw [it_set _ _ _ _ HK.out]; by_cases e : i = k; (rw [if_pos e]; exact hyc); (rw [if_neg e]; exact HQ.out i (by omega))); clear hb2 he ho hyc)
      go_roundw
      case rel => exact ⟨k + 1, _, _, by omega, by go_num, HC2, HQ2, by simpa [World.setCell] using hs2, HB2.out.setCell (Nat.le_refl _) _⟩
      case measure => simp [intOf]; omega
    · obtain rfl : k = rs.length := by omega
      have HY := Lib.hid HC.out.len
      go_wp2
      go_ret
      exact ⟨⟨⟨some ⟨w.heap.size, 0, none⟩, rs.length, ys⟩, by
        show Ending.returned (.slice _ rs.length rs.length) = Ending.returned (.slice _ ys.length rs.length)
        rw [HY.out], ⟨HY.out, HC.out.eqv⟩, HC.out.done hs _, fun i hi => by have h := HQ.out i (by have h2 : i < ys.length := hi; have := HY.out; omega); exact ⟨Nat.le_of_eq h.1.symm, by rw [h.1]; omega⟩⟩, hb⟩
set_option maxHeartbeats 2000000 in
theorem toMarks_cc (x : Mr) (w : World) (hr : MrIn w w.heap.size x) (hl : MrFits x) :
    Calls Try.prog 14 #[x.val] w fun e w' => (∃ y, e = .returned y.val ∧ MrSame x y ∧ MrOwn (iv w.heap.size w'.heap.size) w' y ∧ MrCap y) ∧ Below w.heap.size w w' := by
  have HL := Lib.hid hl
  have HR := Lib.hid hr
  clear hr hl
  unfold Mr.val
  go_enter Try.func14, Try.ntmps14
  go_wp2_with fail
  generalize hW : World.alloc (World.alloc (World.alloc w _) _) _ = W
  have hB : Below w.heap.size w W := by
    rw [← hW]
    go_grown
  have hS : W.heap.size = w.heap.size + 3 := by rw [← hW]; simp
  have hX : Mem2 W w.heap.size (.slice x.G.A x.G.xs.length x.G.c) (.slice x.C.A x.C.xs.length x.C.c) := by
    rw [← hW]
    exact ((mem2_new w _ _ rfl _ _).below ((Below.refl _ _).alloc (Nat.le_refl _) _) (by simp)).below ((Below.refl _ _).alloc (Nat.le_refl _) _) (by simp; omega)
  have hN : Mem2 W (w.heap.size + 1 + 1) (.slice none 0 0) (.slice none 0 0) := by
    rw [← hW]
    exact mem2_new _ _ _ (by simp) _ _
  have hM : Mem2 W (w.heap.size + 1) (.slice none 0 0) (.slice none 0 0) := by
    rw [← hW]
    exact (mem2_new _ _ _ (by simp) _ _).below ((Below.refl _ _).alloc (Nat.le_refl _) _) (by simp)
  clear hW
  refine (toIntSS_rc x.G W (Nst.next HR.out.g hB) HL.out.g).mono ?_
  rintro e w4 ⟨⟨y1, rfl, he1, ho1, hcp1⟩, hb4⟩
  have HCP1 := Lib.hid hcp1
  clear hcp1
  have hs4 : w.heap.size + 3 ≤ w4.heap.size := by have := hb4.size; omega
  have HT4 : Hid (w.heap.size + 3 ≤ w4.heap.size) := Lib.hid hs4
  have hM4 := hM.below hb4 (by omega)
  have hX4 := hX.below hb4 (by omega)
  have hN4 := hN.below hb4 (by omega)
  have HN5 := Lib.hid (hN4.set0 (.slice y1.A y1.xs.length y1.c))
  have HM5 := Lib.hid (hM4.other ⟨w.heap.size + 1 + 1, 0, none⟩ (by simp) (.slice y1.A y1.xs.length y1.c))
  have HX5 := Lib.hid (hX4.other ⟨w.heap.size + 1 + 1, 0, none⟩ (by simp; omega) (.slice y1.A y1.xs.length y1.c))
  obtain ⟨n0, n1, nf⟩ := hN4
  have m1 := hX4.c1
  have HB5 := Lib.hid (show Below w.heap.size w (w4.setCell ⟨w.heap.size + 1 + 1, 0, none⟩ (.slice y1.A y1.xs.length y1.c)) from (hB.trans (hb4.mono (by omega))).setCell (by simp; omega) _)
  have HO5 := Lib.hid (Nst.own_keep ho1 (only_cell w4 (w.heap.size + 1 + 1) 0 (.slice y1.A y1.xs.length y1.c)) (fun i hi e => by have := hi.1; omega))
  have HS5 := Lib.hid he1
  have HT0 := Lib.hid hS
  clear hM4 hX4 hM hX hN hb4 ho1 he1 hB hS
  go_wp2_with fail
  have hs5 : (w4.setCell ⟨w.heap.size + 1 + 1, 0, none⟩ (.slice y1.A y1.xs.length y1.c)).heap.size = w4.heap.size := by simp [World.setCell]
  rw [← hs5] at hs4
  have HT5 : Hid (w4.heap.size ≤ (w4.setCell ⟨w.heap.size + 1 + 1, 0, none⟩ (.slice y1.A y1.xs.length y1.c)).heap.size) := Lib.hid (Nat.le_of_eq hs5.symm)
  revert HN5 HM5 HX5 HB5 HO5 HT5
  clear hs5 n0 n1 nf m1
  generalize World.setCell w4 _ _ = w5 at hs4 ⊢
  intro HN5 HM5 HX5 HB5 HO5 HT5
  refine (toIntSS_rc x.C w5 (Nst.next HR.out.c HB5.out) HL.out.c).mono ?_
  rintro e w6 ⟨⟨y2, rfl, he2, ho2, hcp2⟩, hb6⟩
  have HCP2 := Lib.hid hcp2
  clear hcp2
  have hs6 : w.heap.size + 3 ≤ w6.heap.size := by have := hb6.size; omega
  have HN6 := Lib.hid (HN5.out.below hb6 (by omega))
  have HM6 := Lib.hid (HM5.out.below hb6 (by omega))
  have HO6 := Lib.hid (Nst.keepB HO5.out hb6)
  have HV6 := Lib.hid ho2
  have HE6 := Lib.hid he2
  have HB6 := Lib.hid (below_next HB5.out hb6)
  have q5 : Hid (W.heap.size = w.heap.size + 3 ∧ w4.heap.size ≤ w5.heap.size ∧ w5.heap.size ≤ w6.heap.size) := Lib.hid ⟨HT0.out, HT5.out, hb6.size⟩
  clear hb6 ho2 he2 HN5 HM5 HX5 HB5 HO5 HT5 HT0 hs4
  generalize hq2 : w.heap.size + 1 + 1 = b2 at HN6 ⊢
  generalize hq1 : w.heap.size + 1 = b1 at HM6 ⊢
  have q0 : Hid (w.heap.size + 1 = b1 ∧ w.heap.size + 1 + 1 = b2) := Lib.hid ⟨hq1, hq2⟩
  have e2 : (b1 = b2) = False := by simp; omega
  have e3 : (b2 = b1) = False := by simp; omega
  have HT6 := Lib.hid hs6
  clear hq1 hq2 hs6
  obtain ⟨n0, n1, nf⟩ := HN6.out
  obtain ⟨m0, m1, mf⟩ := HM6.out
  go_wp2_with fail
  generalize hw9 : (World.setCell (World.setCell (World.setCell w6 _ _) _ _) _ _) = w9
  have hn9 : Mem2 w9 b1 (.slice y1.A y1.xs.length y1.c) (.slice y2.A y2.xs.length y2.c) := by
    have hq : b2 ≠ b1 := by rw [Ne, e3]; simp
    rw [← hw9]
    exact ((HM6.out.other _ hq _).set0 _).set1 _
  have ht : Only (fun i => i = b1 ∨ i = b2) w6 w9 := by
    rw [← hw9]
    exact (((Only.refl _ w6).put b2 1 (.inr rfl) _).put b1 0 (.inl rfl) _).put b1 1 (.inl rfl) _
  clear hw9 n0 n1 nf m0 m1 mf
  obtain ⟨m0, m1, mf⟩ := hn9
  obtain ⟨h1, h2⟩ := q0.out
  obtain ⟨h5, h6, h7⟩ := q5.out
  have h8 := HT6.out
  have h9 := HT4.out
  have hts := ht.size
  refine bodyPost_ret (v := .agg #[.slice y1.A y1.xs.length y1.c, .slice y2.A y2.xs.length y2.c]) (by simp [results, Try.results14, go_sem, m0, m1]) rfl ?_
  refine ⟨⟨⟨y1, y2⟩, rfl, ⟨HS5.out, HE6.out⟩, ?_, ⟨HCP1.out, HCP2.out⟩⟩, HB6.out.trans (ht.below (by have := HB6.out.size; omega) (by omega))⟩
  have hdis : ∀ i, i = b1 ∨ i = b2 → i < w.heap.size + 3 := fun i hi => by omega
  refine ⟨_, _, Nst.own_keep HO6.out ht (fun i hi e => ?_), Nst.own_keep HV6.out ht (fun i hi e => ?_), fun i hi => ?_, fun i hi => ?_, fun i h h' => ?_⟩
  · have := hdis i e
    have := hi.1
    omega
  · have := hdis i e
    have := hi.1
    omega
  · have := hi.1
    have := hi.2
    exact ⟨by omega, by omega⟩
  · have := hi.1
    have := hi.2
    exact ⟨by omega, by omega⟩
  · have := h.2
    have := h'.1
    omega
def dropJ (j : Nat) (l : List Int) : List Int := l.take j ++ l.drop (j + 1)
theorem dropJ_len (j : Nat) (l : List Int) (h : j < l.length) : (dropJ j l).length = l.length - 1 := by
  unfold dropJ
  rw [List.length_append, List.length_take, List.length_drop]
  omega
theorem lst_take {w w2 : World} {A : Option Addr} {l : List Int} {j : Nat} (h : Lst w w.heap.size A l) (hb : Below w.heap.size w w2) : Lst w2 w2.heap.size A (l.take j) := fun hp => by
  have hl : 0 < l.length := by
    rw [List.length_take] at hp
    omega
  obtain ⟨b, o, e, hbl, hc⟩ := h hl
  refine ⟨b, o, e, Nat.lt_of_lt_of_le hbl hb.size, fun i hi => ?_⟩
  rw [List.length_take] at hi
  have h1 := (hc i (by omega)).below hb hbl
  have h2 : it (l.take j) i = it l i := by
    unfold it
    rw [List.getD_eq_getElem?_getD, List.getD_eq_getElem?_getD, List.getElem?_take, if_pos (by omega)]
  rw [h2]
  exact h1
theorem drop_cell {w w2 : World} {b o j : Nat} {l : List Int} (h : Lst w w.heap.size (some ⟨b, o, none⟩) l) (hb : Below w.heap.size w w2) (i : Nat) (u : Value) (hu : ((l.drop j).map (Value.int .i64))[i]? = some u) : w2.cell? ((⟨b, o + j, none⟩ : Addr).add i) = some u := by
  have hi : j + i < l.length := by
    have := (List.getElem?_eq_some_iff.1 hu).1
    rw [List.length_map, List.length_drop] at this
    omega
  obtain ⟨b', o', e, hbl, hc⟩ := h.int (by omega)
  injection e with e
  injection e with e1 e2
  subst e1 e2
  rw [List.getElem?_map, List.getElem?_drop, it_get l (j + i) hi] at hu
  have hv : Value.int .i64 (it l (j + i)) = u := by simpa using hu
  rw [← hv]
  have hadd : (⟨b, o + j, none⟩ : Addr).add i = ⟨b, o + (j + i), none⟩ := by
    unfold Addr.add
    by_cases e : i = 0
    · simp [e]
    · simp [e]
      omega
  rw [hadd]
  exact (hb.cell (p := ⟨b, o + (j + i), none⟩) hbl).trans (hc (j + i) hi)
theorem drop_own {w : World} {B g c j n : Nat} {l : List Int} (h : w.ownsRow B 3 1 (.slice (some ⟨g, 0, none⟩) n c) n ((l.take j).map (Value.int .i64) ++ (l.drop (j + 1)).map (Value.int .i64))) (hn : n = (dropJ j l).length) : OwnAt w g 0 (dropJ j l) := by
  subst hn
  refine own_of_row (α := Int) (cap := c) (e := 3) (base := B) (dropJ j l) ?_
  rw [flatMap_int, dropJ, List.map_append]
  exact h
theorem l1OwnR_any (A : Option Addr) (c : Nat) (l : List Int) (n : Nat) (hn : l.length = n) (w : World) (hr : Lst w w.heap.size A l) (hl : n ≤ 1048576) :
    Calls Try.prog 67 #[.slice A n c] w fun e w' => ∃ v, e = .returned v ∧ w'.ownsRow w.heap.size 3 1 v n (l.map (Value.int .i64)) ∧ Below w.heap.size w w' := by
  subst hn
  obtain ⟨i0, hi, hz0, hz1, hz2⟩ := info_parts Try.infoInt
  have HZ := Lib.hid (And.intro hi (And.intro hz0 (And.intro hz1 hz2)))
  have HR := Lib.hid hr
  clear hi hz0 hz1 hz2 hr
  go_enter Try.func67, Try.ntmps67
  go_wp2_with (at_builtin; refine wpList_append_src _ rfl (.tmp 3) (.tmp 4) 34 rfl w.heap.size 3 i0 (.int .i64 0) 8 Try.underlying34 HZ.out.1 HZ.out.2.1 HZ.out.2.2.1 HZ.out.2.2.2 rfl (.slice (some ⟨w.heap.size, 0, none⟩) 0 0) 0 [] rfl (owns_emptyN _ _ _ _ _ (Nat.le_refl _) (heap_at_new _ _ _ rfl)) A l.length c (l.map (Value.int .i64)) rfl (by simp) (lst_src HR.out (below_alloc _ _)) (int_one l) (by unfold maxLen; omega) (by omega) (by simp) ?_; intro v1 w1 hown1 hgrow1 hat1; have HOWN1 := Lib.hid hown1; have HG1 := Lib.hid hgrow1; clear hown1 hgrow1 hat1)
  go_ret
  have ho : w1.ownsRow w.heap.size 3 1 v1 l.length (l.map (Value.int .i64)) := by
    have := HOWN1.out
    rwa [Nat.zero_add, List.nil_append] at this
  exact ⟨v1, rfl, ho, Below.grown (below_alloc _ _) HG1.out (by simp) (fun kk e => by simp [Value.ownBlock] at e; omega)⟩
end Go.Proofs.Ytfeffkjmjkddnaa
