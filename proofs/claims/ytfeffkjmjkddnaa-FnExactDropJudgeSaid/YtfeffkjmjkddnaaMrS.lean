/- Rows without a column, in the program. -/
import Derived.Test.YtfeffkjmjkddnaaMrQ
import Derived.Deep.Cut
import Derived.Laws.CopyOwn
namespace Go.Proofs.Ytfeffkjmjkddnaa
open Go.ChangeShapes Go.WideShapes Go.ChangeAt Go.RowKit Go.Lib Go.Proofs Go.PlainAid
set_option linter.unusedVariables false

/-- A further list copied: whatever was written into the outer array meanwhile. -/
theorem NCp.put {α : Type} [Flat α] [Nst α] {g : Nat} {w w' : World} {rs ys : List (Rw α)} {s : Nat → Nat} {k : Nat} (h : NCp g w rs ys s k) (ho : Only (fun i => i = g) w w') (hk : k < rs.length) (hg : g < w.heap.size) (y : Rw α) (hO : OwnAt w' g 0 (ys.set k y)) (he : Nst.Eqv (it rs k) y) (hy : Nst.Own (iv w.heap.size w'.heap.size) w' y) :
    NCp g w' rs (ys.set k y) (fun i => if i ≤ k then s i else w'.heap.size) (k + 1) := by
  have hl := h.len
  have hbs := ho.size
  have htop := h.top
  have hs0 : ∀ i, i ≤ k → g < s i := fun i hi => Nat.lt_of_lt_of_le h.lo (h.le (Nat.zero_le i) hi)
  refine ⟨by rw [List.length_set]; exact hl, hO, fun i hi => ?_, fun i hi => ?_, by simpa using h.lo, fun i hi => ?_, by
    rw [if_neg (by omega)]
    exact Nat.le_refl _⟩
  · rw [it_set _ _ _ _ (by omega)]
    by_cases e : i = k
    · rw [if_pos e, e]
      exact he
    · rw [if_neg e]
      exact h.eqv i (by omega)
  · rw [it_set _ _ _ _ (by omega)]
    by_cases e : i = k
    · subst e
      rw [if_pos rfl]
      simp only [Nat.le_refl, if_true]
      rw [if_neg (by omega)]
      exact Nst.own_mono hy (fun x hx => ⟨Nat.le_trans htop hx.1, hx.2⟩)
    · rw [if_neg e, if_pos (by omega), if_pos (by omega)]
      refine Nst.own_keep (h.each i (by omega)) ho (fun x hx e => ?_)
      subst e
      have := hs0 i (by omega)
      have := hx.1
      omega
  · rcases Nat.lt_or_ge i k with hi' | hi'
    · rw [if_pos (by omega), if_pos (by omega)]
      exact h.mono i hi'
    · obtain rfl : i = k := by omega
      rw [if_pos (by omega), if_neg (by omega)]
      omega
/-- The rows that a function of each makes. -/
def mapR (f : List Int → List Int) (rs : List (Rw Int)) : List (Rw Int) := rs.map fun r => ⟨none, 0, f r.xs⟩
theorem mapR_len (f : List Int → List Int) (rs : List (Rw Int)) : (mapR f rs).length = rs.length := by simp [mapR]
theorem mapR_it (f : List Int → List Int) (rs : List (Rw Int)) (i : Nat) (hi : i < rs.length) : (it (mapR f rs) i).xs = f (it rs i).xs := by
  unfold it mapR
  rw [List.getD_eq_getElem?_getD, List.getD_eq_getElem?_getD, List.getElem?_map, List.getElem?_eq_getElem hi]
  rfl
theorem ncp_ctt {g : Nat} {w : World} {f : List Int → List Int} {rs ys : List (Rw Int)} {s : Nat → Nat} {A : Option Addr} {c : Nat} (h : NCp g w (mapR f rs) ys s rs.length) : ctt ⟨A, c, ys⟩ = (ctt ⟨A, c, rs⟩).map f := by
  have hl := h.len
  rw [mapR_len] at hl
  refine it_ext _ _ (by rw [ctt_len, List.length_map, ctt_len]; exact hl) (fun i hi => ?_)
  rw [ctt_len] at hi
  have hi' : i < rs.length := by
    have : i < ys.length := hi
    omega
  rw [mapL_it _ _ _ (by rw [ctt_len]; exact hi'), ctt_it, ctt_it]
  have h1 : (it ys i).xs = (it (mapR f rs) i).xs := h.eqv i hi'
  show (it ys i).xs = f (it rs i).xs
  rw [h1, mapR_it f rs i hi']
theorem splice_two {α : Type} (Z X Y : List α) (h : Z.length = X.length + Y.length) : splice (splice Z 0 X) X.length Y = X ++ Y := by
  unfold splice
  rw [List.take_zero, List.nil_append, Nat.zero_add]
  have e1 : (X ++ Z.drop X.length).take X.length = X := by simp
  have e2 : (X ++ Z.drop X.length).drop (X.length + Y.length) = [] := by
    apply List.drop_eq_nil_of_le
    simp
    omega
  rw [e1, e2, List.append_nil]
theorem row_cells {w : World} {g : Nat} {e : TypeId} (l : List Int) (hh : w.heap[g]? = some (.cells (l.map (Value.int .i64)).toArray e (0, 0))) (hn : l.length ≤ 1048576) : OwnAt w g 0 l := by
  refine own_of_row (α := Int) (cap := l.length) (e := e) (base := 0) l ?_
  rw [flatMap_int]
  exact ⟨by rw [List.length_map]; exact (Nat.mul_one _).symm, .inr ⟨g, l.length, _, rfl, Nat.zero_le _, hh, Nat.le_refl _, by unfold maxLen; omega, by show _ = l.length * 1; simp, by show List.take (l.length * 1) _ = _; rw [Nat.mul_one, List.take_of_length_le (by simp)]⟩⟩
theorem made_heap {w : World} {B g n : Nat} {e : TypeId} (h : w.ownsRow B e 1 (.slice (some ⟨g, 0, none⟩) n n) n ((List.replicate n (0 : Int)).map (Value.int .i64))) : w.heap[g]? = some (.cells ((List.replicate n (0 : Int)).map (Value.int .i64)).toArray e (0, 0)) := by
  rcases h.2 with ⟨hv, _⟩ | ⟨g', cap, cur, hv, _, hhp, _, _, h5, h6⟩
  · cases hv
  · injection hv with e1 e2 e3
    injection e1 with e1
    injection e1 with e1 _
    subst e1
    subst e3
    rw [hhp]
    have h7 : cur.toList = (List.replicate n (0 : Int)).map (Value.int .i64) := by
      have h8 := h6
      rw [List.take_of_length_le (by simp; omega)] at h8
      exact h8
    rw [← h7]
theorem take_cell {w w2 : World} {b o j : Nat} {l : List Int} (h : Lst w w.heap.size (some ⟨b, o, none⟩) l) (hb : Below w.heap.size w w2) (i : Nat) (u : Value) (hu : ((l.take j).map (Value.int .i64))[i]? = some u) : w2.cell? ((⟨b, o, none⟩ : Addr).add i) = some u := by
  have hi : i < l.length ∧ i < j := by
    have := (List.getElem?_eq_some_iff.1 hu).1
    rw [List.length_map, List.length_take] at this
    omega
  obtain ⟨b', o', e, hbl, hc⟩ := h.int (by omega)
  injection e with e
  injection e with e1 e2
  subst e1 e2
  rw [List.getElem?_map, List.getElem?_take, if_pos hi.2, it_get l i hi.1] at hu
  have hv : Value.int .i64 (it l i) = u := by simpa using hu
  rw [← hv]
  have hadd : (⟨b, o, none⟩ : Addr).add i = ⟨b, o + i, none⟩ := by
    unfold Addr.add
    by_cases e : i = 0 <;> simp [e]
  rw [hadd]
  exact (hb.cell (p := ⟨b, o + i, none⟩) hbl).trans (hc i hi.1)
theorem Try.sizeInt1 : (Try.prog.info? 3).map (·.size) = some 1 := by kernel_rfl
set_option maxHeartbeats 8000000 in
set_option maxRecDepth 20000 in
theorem withoutColumn_any (r : Rw (Rw Int)) (j : Nat) (w : World) (hr : Nst.In w w.heap.size r) (hl : NFit r) (hcap : NCap r) (hj : ∀ i, i < r.xs.length → j < (it r.xs i).xs.length ∧ (it r.xs i).xs.length ≤ 9) :
    Calls Try.prog 60 #[.slice r.A r.xs.length r.c, .int .i64 j] w fun e w' => (∃ y : Rw (Rw Int), e = .returned (.slice y.A y.xs.length y.c) ∧ ctt y = (ctt r).map (dropJ j) ∧ Nst.Own (iv w.heap.size w'.heap.size) w' y) ∧ Below w.heap.size w w' := by
  have hl' := nfit_len hl
  have HF := Lib.hid (nfit_each hl)
  have HCAP := Lib.hid hcap
  have HJ := Lib.hid hj
  obtain ⟨A, c, rs⟩ := r
  have HR := Lib.hid (show NIn w w.heap.size A rs from hr)
  replace hl' : rs.length ≤ 1048576 := hl'
  replace HJ : Hid (∀ i, i < rs.length → j < (it rs i).xs.length ∧ (it rs i).xs.length ≤ 9) := HJ
  replace HCAP : Hid (∀ i, i < rs.length → (it rs i).xs.length ≤ (it rs i).c ∧ (it rs i).c ≤ 9223372036854775807) := HCAP
  show Calls Try.prog 60 #[.slice A rs.length c, .int .i64 j] w _
  clear hr hl hcap hj
  have HSZ := Lib.hid Try.sizeInt1
  obtain ⟨i0, hi, hz0, hz1, hz2⟩ := info_parts Try.infoRwIntS
  have HZ := Lib.hid (made_flat (α := Rw Int) #[.slice none 0 0] default rs.length rfl (by decide))
  obtain ⟨i1, ki, kz0, kz1, kz2⟩ := info_parts Try.infoInt
  go_enter Try.func60, Try.ntmps60
  go_wp2_with (at_make; refine wpList_make_full _ rfl (.tmp 9) (.tmp 9) 22 rfl w.heap.size 34 i0 (.slice none 0 0) 1 Try.underlying22 hi hz0 hz1 .i64 .i64 _ _ rs.length rfl rfl rfl rfl (by rw [hz2]; omega) (by unfold maxLen; omega) (Nat.le_refl _) ?_; intro w1 hown hgrow)
  have HW := Lib.hid (show OwnAt w1 w.heap.size 0 (List.replicate rs.length (default : Rw Int)) from own_of_row (α := Rw Int) (cap := rs.length) (e := 34) (base := w.heap.size) _ (by rw [← HZ.out, List.length_replicate]; exact hown))
  have hb1 : Below w.heap.size w w1 := (Below.refl _ _).grown hgrow (Nat.le_refl _) (fun k e => by cases e)
  have hs1 := (hown.lt w.heap.size rfl).2
  have HB1 := Lib.hid hb1
  clear hown hgrow hb1
  go_wp2
  go_loopw [13] (fun i wr => ∃ (k : Nat) (ys : List (Rw Int)) (s : Nat → Nat), k ≤ rs.length ∧ i = .int .i64 k ∧ Hid (NCp w.heap.size wr (mapR (dropJ j) rs) ys s k) ∧ w.heap.size < wr.heap.size ∧ Hid (Below w.heap.size w wr)) (fun i _ => rs.length - (intOf i).toNat)
  case atStart => exact ⟨0, _, fun _ => w.heap.size + 1, Nat.zero_le _, rfl, Lib.hid ⟨by rw [List.length_replicate, mapR_len], HW.out, fun i hi => absurd hi (by omega), fun i hi => absurd hi (by omega), Nat.lt_succ_self _, fun i hi => absurd hi (by omega), hs1⟩, hs1, HB1⟩
  case round =>
    obtain ⟨k, ys, s, hk, rfl, HC, hs, HB⟩ := hrel
    by_cases hlt : k < rs.length
    · obtain ⟨b', o', rfl, hbl', hc'⟩ := HR.out.out.rw (by omega)
      have c0 := (HB.out.cell (p := ⟨b', o' + k, none⟩) hbl').trans (hc' k hlt)
      have HJ9 := Lib.hid (HJ.out k hlt)
      have hLst : Lst w w.heap.size (it rs k).A (it rs k).xs := HR.out.each k hlt
      obtain ⟨bq, oq, hAq, hblq, hcq⟩ := hLst.int (by have := HJ9.out; omega)
      have HLQ := Lib.hid (show Lst wr wr.heap.size (some ⟨bq, oq, none⟩) (it rs k).xs from by
        have hLst2 := hLst
        rw [hAq] at hLst2
        exact (hLst2.below HB.out (Nat.le_refl _)).up HB.out.size)
      rw [hAq] at c0
      have HY := Lib.hid (show k < ys.length by have := HC.out.len; rw [mapR_len] at this; omega)
      have hyl : k < ys.length := HY.out
      have hn1 : (1 : Int) ≤ ((it rs k).xs.length : Int) := by have := HJ9.out; omega
      have hn9 : (it rs k).xs.length ≤ 9 := HJ9.out.2
      have hi1 : (0 : Int) ≤ (k : Int) := by omega
      have hi2 : (k : Int) < (rs.length : Int) := by omega
      have hq1 : (0 : Int) ≤ (j : Int) := by omega
      have hq3 : (j : Int) + 1 ≤ ((it rs k).xs.length : Int) := by have := HJ9.out; omega
      have hq4 : (it rs k).xs.length ≤ (it rs k).c := (HCAP.out k hlt).1
      have hq5 : (it rs k).c ≤ 9223372036854775807 := (HCAP.out k hlt).2
      have hq7 : j ≤ (it rs k).c := by have := HJ9.out; omega
      have m1 : IntKind.i64.wrap ((j : Int) + 1) = (j : Int) + 1 := IntWalk.i64_in _ (by have := HJ9.out; omega)
      have m2 : ((j : Int) + 1).toNat = j + 1 := by omega
      have m3 : (0 : Int) ≤ (j : Int) + 1 := by omega
      have m4 : ((it rs k).xs.length : Int) - 1 = (((it rs k).xs.length - 1 : Nat) : Int) := by have := HJ9.out; omega
      have m5 : j ≤ (it rs k).xs.length - 1 := by have := HJ9.out; omega
      have HZ1 := Lib.hid (made_flat (α := Int) #[.int .i64 0] 0 ((it rs k).xs.length - 1) rfl (by decide))
      have HLQ0 := Lib.hid (show Lst w w.heap.size (some ⟨bq, oq, none⟩) (it rs k).xs from hAq ▸ hLst)
      clear hLst
      clear hc' hAq hcq hblq
      go_upto_region 6 with (at_make; refine wpList_make_full _ rfl (.tmp 22) (.tmp 22) 34 rfl wr.heap.size 3 i1 (.int .i64 0) 1 Try.underlying34 ki kz0 kz1 .i64 .i64 _ _ ((it rs k).xs.length - 1) rfl rfl (by first | rfl | exact congrArg _ m4) (by first | rfl | exact congrArg _ m4) (by rw [kz2]; omega) (by unfold maxLen; omega) (Nat.le_refl _) ?_; intro w1 hown hgrow; have HB1w := Lib.hid (show Below wr.heap.size wr w1 from (Below.refl _ _).grown hgrow (Nat.le_refl _) (fun k e => by cases e)); have hs1w := (hown.lt wr.heap.size rfl).2; have HH1 := Lib.hid (made_heap (show w1.ownsRow wr.heap.size 3 1 _ _ _ from by rw [← flatMap_int, ← HZ1.out]; exact hown)); have HO1 := Lib.hid (HC.out.own.block (HB1w.out.block _ hs)); obtain ⟨d0, f0⟩ := HO1.out.rw0 k HY.out; clear hown hgrow)
      have HN2 := Lib.hid (show Only (fun i => i = w.heap.size) w1 (w1.setCell ⟨w.heap.size, k, none⟩ (.slice (some ⟨wr.heap.size, 0, none⟩) ((it rs k).xs.length - 1) ((it rs k).xs.length - 1))) from only_cell w1 w.heap.size k _)
      have HDL := Lib.hid (show (dropJ j (it rs k).xs).length = (it rs k).xs.length - 1 from dropJ_len _ _ (by have := HJ9.out; omega))
      have HO2 := Lib.hid (show OwnAt (w1.setCell ⟨w.heap.size, k, none⟩ (.slice (some ⟨wr.heap.size, 0, none⟩) ((it rs k).xs.length - 1) ((it rs k).xs.length - 1))) w.heap.size 0 (ys.set k ⟨some ⟨wr.heap.size, 0, none⟩, (it rs k).xs.length - 1, dropJ j (it rs k).xs⟩) from by
        have h := HO1.out.putRw0 k ⟨some ⟨wr.heap.size, 0, none⟩, (it rs k).xs.length - 1, dropJ j (it rs k).xs⟩ HY.out
        rw [HDL.out] at h
        exact h)
      clear d0 f0
      generalize World.setCell w1 _ _ = w2 at HN2 HO2 ⊢
      have HSW := Lib.hid HN2.out.size
      have HW2 := Lib.hid (show wr.heap.size ≤ w2.heap.size from Nat.le_trans (Nat.le_of_lt hs1w) HN2.out.size)
      have HNw := Lib.hid (show Only (fun i => i = w.heap.size) wr w2 from (Only.of_below (S := fun i => i = w.heap.size) HB1w.out (Nat.le_refl _)).trans HN2.out)
      have HH2 := Lib.hid (show w2.drew.heap[wr.heap.size]? = some (.cells ((List.replicate ((it rs k).xs.length - 1) (0 : Int)).map (Value.int .i64)).toArray 3 (0, 0)) from (HN2.out.block wr.heap.size hs1w (by omega)).trans HH1.out)
      have HB2 := Lib.hid (show Below w.heap.size w w2 from HB.out.trans (HNw.out.below (Nat.le_of_lt hs) (fun i hi => by omega)))
      have HLQ2 := Lib.hid (show Lst w2 w2.heap.size (some ⟨bq, oq, none⟩) (it rs k).xs from ((HLQ0.out.below HB2.out (Nat.le_refl _)).up HB2.out.size))
      have HCE := Lib.hid (fun w' (hb : Below wr.heap.size w2 w') => show w'.cell? ⟨w.heap.size, k, none⟩ = some (.slice (some ⟨wr.heap.size, 0, none⟩) ((it rs k).xs.length - 1) ((it rs k).xs.length - 1)) from by
        have h := (HO2.out.rw0 k (by rw [List.length_set]; exact HY.out)).c0
        rw [it_set _ _ _ _ HY.out, if_pos rfl] at h
        have h2 := (hb.cell (p := ⟨w.heap.size, k, none⟩) hs).trans h
        rw [HDL.out] at h2
        exact h2)
      have HBd := Lib.hid (show Below wr.heap.size w2 w2.drew from (below_drew w2).mono HW2.out)
      have HMN := Lib.hid (show (((it rs k).xs.take j).map (Value.int .i64)).length = Nat.min j ((it rs k).xs.length - 1) from by
        rw [List.length_map, List.length_take]
        have := HJ9.out
        show min j _ = min j _
        omega)
      clear HH1 HN2
      refine wp_region_held_drew (S := (fun w' => w'.cell? ⟨w.heap.size, k, none⟩ = some (.slice (some ⟨wr.heap.size, 0, none⟩) ((it rs k).xs.length - 1) ((it rs k).xs.length - 1)))) (by kernel_rfl) ?_ (fun hHeld0 => ?_)
      · ((try dsimp only); exact HCE.out _ HBd.out)
      refine wpAnyH_take (i := 0) (oi := _) (v := ?_) rfl (by kernel_rfl) (by kernel_rfl) (by kernel_rfl) (fun _ _ _ h => h) (Or.inl ⟨by rfl, ?_⟩) (by assumption) ?_
      rotate_left
      · (intro w hSw; (try dsimp only at hSw); go_simp; try with_reducible rfl)
      try simp only [Act.put, List.setIfInBounds_toArray, List.set_cons_zero, List.set_cons_succ, List.getElem_toArray, List.getElem_cons_zero]
      refine wpAnyH_take (i := 1) (oi := _) (v := ?_) rfl (by kernel_rfl) (by kernel_rfl) (by kernel_rfl) (fun _ _ _ h => h) (Or.inl ⟨by rfl, ?_⟩) (by assumption) ?_
      rotate_left
      · (intro w hSw; (try dsimp only at hSw); go_simp; try with_reducible rfl)
      try simp only [Act.put, List.setIfInBounds_toArray, List.set_cons_zero, List.set_cons_succ, List.getElem_toArray, List.getElem_cons_zero, List.getElem_cons_succ]
      refine wpAnyH_take (i := 2) (oi := _) (v := ?_) rfl (by kernel_rfl) (by kernel_rfl) (by kernel_rfl) (fun _ _ _ h => h) (Or.inl ⟨by rfl, ?_⟩) (by assumption) ?_
      rotate_left
      · (intro w hSw; (try dsimp only at hSw); go_simp; try with_reducible rfl)
      try simp only [Act.put, List.setIfInBounds_toArray, List.set_cons_zero, List.set_cons_succ, List.getElem_toArray, List.getElem_cons_zero, List.getElem_cons_succ]
      refine wpAnyH_take (i := 3) (oi := _) (v := ?_) rfl (by kernel_rfl) (by kernel_rfl) (by kernel_rfl) (fun _ _ _ h => h) (Or.inl ⟨by rfl, ?_⟩) (by assumption) ?_
      rotate_left
      · (intro w hSw; (try dsimp only at hSw); go_simp; try with_reducible rfl)
      try simp only [Act.put, List.setIfInBounds_toArray, List.set_cons_zero, List.set_cons_succ, List.getElem_toArray, List.getElem_cons_zero, List.getElem_cons_succ]
      refine wpAnyH_take (i := 4) (oi := _) (v := ?_) rfl (by kernel_rfl) (by kernel_rfl) (by kernel_rfl) (fun _ _ _ h => h) (Or.inl ⟨by rfl, ?_⟩) (by assumption) ?_
      rotate_left
      · (intro w hSw; (try dsimp only at hSw); go_simp; try with_reducible rfl)
      try simp only [Act.put, List.setIfInBounds_toArray, List.set_cons_zero, List.set_cons_succ, List.getElem_toArray, List.getElem_cons_zero, List.getElem_cons_succ]
      refine wpAnyH_take (i := 5) (oi := _) (v := ?_) rfl (by kernel_rfl) (by kernel_rfl) (by kernel_rfl) (fun _ _ _ h => h) (Or.inl ⟨by rfl, ?_⟩) (by assumption) ?_
      rotate_left
      · (intro w hSw; (try dsimp only at hSw); go_simp; try with_reducible rfl)
      try simp only [Act.put, List.setIfInBounds_toArray, List.set_cons_zero, List.set_cons_succ, List.getElem_toArray, List.getElem_cons_zero, List.getElem_cons_succ]
      refine wpAnyH_take (i := 6) (oi := _) (v := ?_) rfl (by kernel_rfl) (by kernel_rfl) (by kernel_rfl) (fun _ _ _ h => h) (Or.inl ⟨by rfl, ?_⟩) (by assumption) ?_
      rotate_left
      · (intro w hSw; (try dsimp only at hSw); go_simp; try with_reducible rfl)
      try simp only [Act.put, List.setIfInBounds_toArray, List.set_cons_zero, List.set_cons_succ, List.getElem_toArray, List.getElem_cons_zero, List.getElem_cons_succ]
      refine wpAnyH_ready (rs := [7]) (by kernel_rfl) (by simp) ?_
      refine AllReadyH.cons rfl (fun K hK => ?_) ?_
      rotate_left
      · exact AllReadyH.nil
      (refine step_copy_splice (by rfl) (.tmp 28) (.tmp 31) 34 34 (by rfl) 3 Try.underlying34 HSZ.out (some ⟨wr.heap.size, 0, none⟩) (some ⟨bq, oq, none⟩) ((it rs k).xs.length - 1) ((it rs k).xs.length - 1) j (it rs k).c (by rfl) (by rfl) wr.heap.size 0 ((List.replicate ((it rs k).xs.length - 1) (0 : Int)).map (Value.int .i64)) 3 HH2.out (((it rs k).xs.take j).map (Value.int .i64)) HMN.out (fun hp => ⟨rfl, _, rfl, fun i u hu => take_cell HLQ2.out (below_drew _) i u hu⟩) (by rw [List.length_map, List.length_map, List.length_take, List.length_replicate]; have := HJ9.out; omega) (int_one _) wr.heap.size w2 (below_drew w2 |>.mono HW2.out) (Nat.le_refl _) ?_; intro w3 hw3 hb3; have HH3 := Lib.hid hw3.out; have HB3 := Lib.hid hb3; clear hw3 hb3)
      refine hK.out _ _ ?_ (fun hHeld1 => ?_)
      · ((try dsimp only); exact HCE.out _ HB3.out)
      clear hK K
      refine wpAnyH_done (by kernel_rfl) ?_ _
      have HW3 := Lib.hid (show wr.heap.size ≤ w3.heap.size from Nat.le_trans HW2.out HB3.out.size)
      have HBw3 := Lib.hid (show Below w.heap.size w w3 from HB2.out.trans (HB3.out.mono (Nat.le_of_lt hs)))
      have HLQ3 := Lib.hid (show Lst w3 w3.heap.size (some ⟨bq, oq, none⟩) (it rs k).xs from ((HLQ0.out.below HBw3.out (Nat.le_refl _)).up HBw3.out.size))
      have HH3d := Lib.hid (show w3.drew.heap[wr.heap.size]? = some (.cells (splice ((List.replicate ((it rs k).xs.length - 1) (0 : Int)).map (Value.int .i64)) 0 (((it rs k).xs.take j).map (Value.int .i64))).toArray 3 (0, 0)) from HH3.out)
      have HBd3 := Lib.hid (show Below wr.heap.size w2 w3.drew from HB3.out.trans ((below_drew w3).mono HW3.out))
      have HMN2 := Lib.hid (show (((it rs k).xs.drop (j + 1)).map (Value.int .i64)).length = Nat.min ((it rs k).xs.length - (j + 1)) ((it rs k).xs.length - 1 - j) from by
        rw [List.length_map, List.length_drop]
        have := HJ9.out
        show _ = min _ _
        omega)
      go_upto_region 7 with fail
      refine wp_region_held_drew (S := (fun w' => w'.cell? ⟨w.heap.size, k, none⟩ = some (.slice (some ⟨wr.heap.size, 0, none⟩) ((it rs k).xs.length - 1) ((it rs k).xs.length - 1)))) (by kernel_rfl) ?_ (fun hHeld0 => ?_)
      · ((try dsimp only); exact HCE.out _ HBd3.out)
      refine wpAnyH_take (i := 0) (oi := _) (v := ?_) rfl (by kernel_rfl) (by kernel_rfl) (by kernel_rfl) (fun _ _ _ h => h) (Or.inl ⟨by rfl, ?_⟩) (by assumption) ?_
      rotate_left
      · (intro w hSw; (try dsimp only at hSw); go_simp; try with_reducible rfl)
      try simp only [Act.put, List.setIfInBounds_toArray, List.getElem_toArray, List.getElem_cons_zero]
      refine wpAnyH_take (i := 1) (oi := _) (v := ?_) rfl (by kernel_rfl) (by kernel_rfl) (by kernel_rfl) (fun _ _ _ h => h) (Or.inl ⟨by rfl, ?_⟩) (by assumption) ?_
      rotate_left
      · (intro w hSw; (try dsimp only at hSw); go_simp; try with_reducible rfl)
      try simp only [Act.put, List.setIfInBounds_toArray, List.set_cons_zero, List.set_cons_succ, List.getElem_toArray, List.getElem_cons_zero, List.getElem_cons_succ]
      refine wpAnyH_take (i := 2) (oi := _) (v := ?_) rfl (by kernel_rfl) (by kernel_rfl) (by kernel_rfl) (fun _ _ _ h => h) (Or.inl ⟨by rfl, ?_⟩) (by assumption) ?_
      rotate_left
      · (intro w hSw; (try dsimp only at hSw); go_simp; try with_reducible rfl)
      try simp only [Act.put, List.setIfInBounds_toArray, List.set_cons_zero, List.set_cons_succ, List.getElem_toArray, List.getElem_cons_zero, List.getElem_cons_succ]
      refine wpAnyH_take (i := 3) (oi := _) (v := ?_) rfl (by kernel_rfl) (by kernel_rfl) (by kernel_rfl) (fun _ _ _ h => h) (Or.inl ⟨by rfl, ?_⟩) (by assumption) ?_
      rotate_left
      · (intro w hSw; (try dsimp only at hSw); go_simp; try with_reducible rfl)
      try simp only [Act.put, List.setIfInBounds_toArray, List.set_cons_zero, List.set_cons_succ, List.getElem_toArray, List.getElem_cons_zero, List.getElem_cons_succ]
      refine wpAnyH_take (i := 4) (oi := _) (v := ?_) rfl (by kernel_rfl) (by kernel_rfl) (by kernel_rfl) (fun _ _ _ h => h) (Or.inl ⟨by rfl, ?_⟩) (by assumption) ?_
      rotate_left
      · (intro w hSw; (try dsimp only at hSw); go_simp; try with_reducible rfl)
      try simp only [Act.put, List.setIfInBounds_toArray, List.set_cons_zero, List.set_cons_succ, List.getElem_toArray, List.getElem_cons_zero, List.getElem_cons_succ]
      refine wpAnyH_take (i := 5) (oi := _) (v := ?_) rfl (by kernel_rfl) (by kernel_rfl) (by kernel_rfl) (fun _ _ _ h => h) (Or.inl ⟨by rfl, ?_⟩) (by assumption) ?_
      rotate_left
      · (intro w hSw; (try dsimp only at hSw); go_simp; try with_reducible rfl)
      try simp only [Act.put, List.setIfInBounds_toArray, List.set_cons_zero, List.set_cons_succ, List.getElem_toArray, List.getElem_cons_zero, List.getElem_cons_succ]
      refine wpAnyH_take (i := 6) (oi := _) (v := ?_) rfl (by kernel_rfl) (by kernel_rfl) (by kernel_rfl) (fun _ _ _ h => h) (Or.inl ⟨by rfl, ?_⟩) (by assumption) ?_
      rotate_left
      · (intro w hSw; (try dsimp only at hSw); go_simp; try with_reducible rfl)
      try simp only [Act.put, List.setIfInBounds_toArray, List.set_cons_zero, List.set_cons_succ, List.getElem_toArray, List.getElem_cons_zero, List.getElem_cons_succ]
      refine wpAnyH_take (i := 7) (oi := _) (v := ?_) rfl (by kernel_rfl) (by kernel_rfl) (by kernel_rfl) (fun _ _ _ h => h) (Or.inl ⟨by rfl, ?_⟩) (by assumption) ?_
      rotate_left
      · (intro w hSw; (try dsimp only at hSw); go_simp; try with_reducible rfl)
      try simp only [Act.put, List.setIfInBounds_toArray, List.set_cons_zero, List.set_cons_succ, List.getElem_toArray, List.getElem_cons_zero, List.getElem_cons_succ]
      refine wpAnyH_take (i := 8) (oi := _) (v := ?_) rfl (by kernel_rfl) (by kernel_rfl) (by kernel_rfl) (fun _ _ _ h => h) (Or.inl ⟨by rfl, ?_⟩) (by assumption) ?_
      rotate_left
      · (intro w hSw; (try dsimp only at hSw); go_simp; try with_reducible rfl)
      try simp only [Act.put, List.setIfInBounds_toArray, List.set_cons_zero, List.set_cons_succ, List.getElem_toArray, List.getElem_cons_zero, List.getElem_cons_succ]
      refine wpAnyH_take (i := 9) (oi := _) (v := ?_) rfl (by kernel_rfl) (by kernel_rfl) (by kernel_rfl) (fun _ _ _ h => h) (Or.inl ⟨by rfl, ?_⟩) (by assumption) ?_
      rotate_left
      · (intro w hSw; (try dsimp only at hSw); go_simp; try with_reducible rfl)
      try simp only [Act.put, List.setIfInBounds_toArray, List.set_cons_zero, List.set_cons_succ, List.getElem_toArray, List.getElem_cons_zero, List.getElem_cons_succ]
      generalize hAd : (if (it rs k).xs.length - 1 = j then (some ⟨wr.heap.size, 0, none⟩ : Option Addr) else some ⟨wr.heap.size, j, none⟩) = Ad
      have HAD := Lib.hid hAd
      clear hAd
      generalize hBd : (if (it rs k).c = j + 1 then (some ⟨bq, oq, none⟩ : Option Addr) else some ⟨bq, oq + (j + 1), none⟩) = Bd
      have HBD := Lib.hid hBd
      clear hBd
      refine wpAnyH_ready (rs := [10]) (by kernel_rfl) (by simp) ?_
      refine AllReadyH.cons rfl (fun K hK => ?_) ?_
      rotate_left
      · exact AllReadyH.nil
      (refine step_copy_splice (by rfl) (.tmp 38) (.tmp 42) 34 34 (by rfl) 3 Try.underlying34 HSZ.out Ad Bd ((it rs k).xs.length - 1 - j) ((it rs k).xs.length - 1 - j) ((it rs k).xs.length - (j + 1)) ((it rs k).c - (j + 1)) (by rfl) (by rfl) wr.heap.size j _ 3 HH3d.out (((it rs k).xs.drop (j + 1)).map (Value.int .i64)) HMN2.out (fun hp => ⟨by rw [← HAD.out]; exact if_neg (by rw [List.length_map, List.length_drop] at hp; omega), _, by rw [← HBD.out]; exact if_neg (by rw [List.length_map, List.length_drop] at hp; have := hq4; omega), drop_cell HLQ3.out (below_drew _)⟩) (by rw [length_splice _ _ _ (by rw [List.length_map, List.length_map, List.length_take, List.length_replicate]; have := HJ9.out; omega), List.length_map, List.length_map, List.length_drop, List.length_replicate]; have := HJ9.out; omega) (int_one _) wr.heap.size w3 (below_drew w3 |>.mono HW3.out) (Nat.le_refl _) ?_; intro w4 hw4 hb4; have HH4 := Lib.hid hw4.out; have HB4 := Lib.hid hb4; clear hw4 hb4)
      refine hK.out _ _ ?_ (fun hHeld1 => ?_)
      · ((try dsimp only); exact HCE.out _ (HB3.out.trans HB4.out))
      clear hK K
      refine wpAnyH_done (by kernel_rfl) ?_ _
      have HF4 := Lib.hid (show OwnAt w4 wr.heap.size 0 (dropJ j (it rs k).xs) from row_cells _ (by
        have h := HH4.out
        have hX : (((it rs k).xs.take j).map (Value.int .i64)).length = j := by
          rw [List.length_map, List.length_take]
          have := HJ9.out
          omega
        have h2 := splice_two ((List.replicate ((it rs k).xs.length - 1) (0 : Int)).map (Value.int .i64)) (((it rs k).xs.take j).map (Value.int .i64)) (((it rs k).xs.drop (j + 1)).map (Value.int .i64)) (by
          rw [hX, List.length_map, List.length_replicate, List.length_map, List.length_drop]
          have := HJ9.out
          omega)
        rw [hX] at h2
        rw [h2, ← List.map_append] at h
        exact h) (by rw [HDL.out]; omega))
      have HB24 := Lib.hid (show Below wr.heap.size w2 w4 from HB3.out.trans HB4.out)
      have HN4 := Lib.hid (show Only (fun i => i = w.heap.size) wr w4 from HNw.out.then HB24.out)
      have HS4 := Lib.hid (show wr.heap.size < w4.heap.size from Nat.lt_of_lt_of_le hs1w (Nat.le_trans HSW.out HB24.out.size))
      have HC4 := Lib.hid (HC.out.put HN4.out (by rw [mapR_len]; exact hlt) hs ⟨some ⟨wr.heap.size, 0, none⟩, (it rs k).xs.length - 1, dropJ j (it rs k).xs⟩ (HO2.out.block (HB24.out.block _ hs)) (show dropJ j (it rs k).xs = (it (mapR (dropJ j) rs) k).xs from (mapR_it _ _ _ hlt).symm) (fun _ => ⟨wr.heap.size, 0, rfl, ⟨Nat.le_refl _, HS4.out⟩, HS4.out, HF4.out⟩))
      have HBw4 := Lib.hid (show Below w.heap.size w w4 from HB2.out.trans (HB24.out.mono (Nat.le_of_lt hs)))
      have hs4 := Nat.lt_trans hs HS4.out
      go_wp2
      go_roundw
      case rel => exact ⟨k + 1, _, _, by omega, by go_num, HC4, hs4, HBw4⟩
      case measure => simp [intOf]; omega
    · obtain rfl : k = rs.length := by omega
      have HY := Lib.hid (show ys.length = rs.length by have := HC.out.len; rw [mapR_len] at this; exact this)
      go_wp2
      go_ret
      exact ⟨⟨⟨some ⟨w.heap.size, 0, none⟩, rs.length, ys⟩, by
        show Ending.returned (.slice _ rs.length rs.length) = Ending.returned (.slice _ ys.length rs.length)
        rw [HY.out], ncp_ctt HC.out, (by
        have h := HC.out
        exact NCp.done (rs := mapR (dropJ j) rs) (by rw [mapR_len]; exact h) hs _)⟩, HB.out⟩
end Go.Proofs.Ytfeffkjmjkddnaa
