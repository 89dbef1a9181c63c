/- Copies of rows and of marks, in the program; marks if they are valid, of both sides. -/
import Derived.Test.YtfeffkjmjkddnaaMrK
import Derived.Deep.Cut
namespace Go.Proofs.Ytfeffkjmjkddnaa
open Go.ChangeShapes Go.WideShapes Go.ChangeAt Go.RowKit Go.Lib Go.Proofs Go.PlainAid
set_option linter.unusedVariables false

set_option maxRecDepth 100000 in
set_option maxHeartbeats 1000000 in
theorem cloneInt_any (A : Option Addr) (c : Nat) (l : List Int) (w : World) (hr : Lst w w.heap.size A l) (hl : l.length ≤ 1048576) (hp : 0 < l.length) :
    Calls Try.prog 72 #[.slice A l.length c] w fun e w' => ∃ g cap, e = .returned (.slice (some ⟨g, 0, none⟩) l.length cap) ∧ OwnAt w' g 0 l ∧ w.heap.size ≤ g ∧ g < w'.heap.size ∧ Below w.heap.size w w' := by
  have q27 : ∀ (w : World) (a : Option Addr) (n c n' c' : Nat), (binOp .eql 34 (.slice a n c) (.slice none n' c')).run Try.prog w = .ok (.bool a.isNone) w := fun w a n c n' c' => Lib.run_eql_slice_nil w _ _ a n c n' c' Try.underlying34
  obtain ⟨b, o, rfl, hbl, hc⟩ := hr.int hp
  obtain ⟨i0, hi, hz0, hz1, hz2⟩ := info_parts Try.infoInt
  have HZ := Lib.hid (And.intro hi (And.intro hz0 (And.intro hz1 hz2)))
  have HR := Lib.hid hr
  clear hr hc hi hz0 hz1 hz2
  go_enter Try.func72, Try.ntmps72
  go_wp2_with (at_builtin; refine wpList_append_src _ rfl (.tmp 5) (.tmp 6) 34 rfl w.heap.size 3 i0 (.int .i64 0) 8 Try.underlying34 HZ.out.1 HZ.out.2.1 HZ.out.2.2.1 HZ.out.2.2.2 rfl (.slice (some ⟨w.heap.size, 0, none⟩) 0 0) 0 [] rfl (owns_emptyN _ _ _ _ _ (Nat.le_refl _) (heap_at_new _ _ _ rfl)) (some ⟨b, o, none⟩) l.length c (l.map (Value.int .i64)) rfl (by simp) (lst_src HR.out (below_alloc _ _)) (int_one l) (by unfold maxLen; omega) (by omega) (by simp) ?_; intro v1 w1 hown1 hgrow1 hat1; have HOWN1 := Lib.hid hown1; have HG1 := Lib.hid hgrow1; clear hown1 hgrow1 hat1)
  go_ret
  have ho : w1.ownsRow w.heap.size 3 1 v1 l.length (l.map (Value.int .i64)) := by
    have := HOWN1.out
    rwa [Nat.zero_add, List.nil_append] at this
  obtain ⟨g, cap, rfl, h1, h2⟩ := row_pos ho hp
  refine ⟨g, cap, rfl, own_of_row (α := Int) (cap := cap) (e := 3) (base := w.heap.size) l ?_, h1, h2, ?_⟩
  · rw [flatMap_int]
    exact ho
  · exact Below.grown (below_alloc _ _) HG1.out (by simp) (fun kk e => by simp [Value.ownBlock] at e; omega)
theorem cloneInt_r (r : Rw Int) (w : World) (hr : Nst.In w w.heap.size r) (hl : NFit r) (hp : 0 < r.xs.length) :
    Calls Try.prog 72 #[.slice r.A r.xs.length r.c] w fun e w' => (∃ y : Rw Int, e = .returned (.slice y.A y.xs.length y.c) ∧ Nst.Eqv r y ∧ Nst.Own (iv w.heap.size w'.heap.size) w' y) ∧ Below w.heap.size w w' := by
  refine (cloneInt_any r.A r.c r.xs w hr (nfit_len hl) hp).mono ?_
  rintro e w' ⟨g, cap, rfl, ho, h1, h2, hb⟩
  exact ⟨⟨⟨some ⟨g, 0, none⟩, cap, r.xs⟩, rfl, rfl, fun _ => ⟨g, 0, rfl, ⟨h1, h2⟩, h2, ho⟩⟩, hb⟩
set_option maxHeartbeats 1000000 in
theorem copyOfRows_any (r : Rw (Rw Int)) (w : World) (hr : Nst.In w w.heap.size r) (hl : NFit r) (hp : ∀ i, i < r.xs.length → 0 < (it r.xs i).xs.length) :
    Calls Try.prog 68 #[.slice r.A r.xs.length r.c] w fun e w' => (∃ y : Rw (Rw Int), e = .returned (.slice y.A y.xs.length y.c) ∧ Nst.Eqv r y ∧ Nst.Own (iv w.heap.size w'.heap.size) w' y) ∧ Below w.heap.size w w' := by
  have hl' := nfit_len hl
  have HF := Lib.hid (nfit_each hl)
  have HP := Lib.hid hp
  obtain ⟨A, c, rs⟩ := r
  have HR := Lib.hid (show NIn w w.heap.size A rs from hr)
  replace hl' : rs.length ≤ 1048576 := hl'
  replace HF : Hid (∀ i, i < rs.length → NFit (it rs i)) := HF
  replace HP : Hid (∀ i, i < rs.length → 0 < (it rs i).xs.length) := HP
  show Calls Try.prog 68 #[.slice A rs.length c] w _
  clear hr hl hp
  obtain ⟨i0, hi, hz0, hz1, hz2⟩ := info_parts Try.infoRwIntS
  have HZ := Lib.hid (made_flat (α := Rw Int) #[.slice none 0 0] default rs.length rfl (by decide))
  go_enter Try.func68, Try.ntmps68
  go_wp2_with (at_make; refine wpList_make_full _ rfl (.tmp 7) (.tmp 7) 22 rfl w.heap.size 34 i0 (.slice none 0 0) 1 Try.underlying22 hi hz0 hz1 .i64 .i64 _ _ rs.length rfl rfl rfl rfl (by rw [hz2]; omega) (by unfold maxLen; omega) (Nat.le_refl _) ?_; intro w1 hown hgrow)
  have HW := Lib.hid (show OwnAt w1 w.heap.size 0 (List.replicate rs.length (default : Rw Int)) from own_of_row (α := Rw Int) (cap := rs.length) (e := 34) (base := w.heap.size) _ (by rw [← HZ.out, List.length_replicate]; exact hown))
  have hb1 : Below w.heap.size w w1 := (Below.refl _ _).grown hgrow (Nat.le_refl _) (fun k e => by cases e)
  have hs1 := (hown.lt w.heap.size rfl).2
  have HB1 := Lib.hid hb1
  clear hown hgrow hb1
  go_wp2
  go_loopw [11] (fun i wr => ∃ (k : Nat) (ys : List (Rw Int)) (s : Nat → Nat), k ≤ rs.length ∧ i = .int .i64 k ∧ Hid (NCp w.heap.size wr rs ys s k) ∧ w.heap.size < wr.heap.size ∧ Below w.heap.size w wr) (fun i _ => rs.length - (intOf i).toNat)
  case atStart => exact ⟨0, _, fun _ => w.heap.size + 1, Nat.zero_le _, rfl, Lib.hid ⟨by rw [List.length_replicate], HW.out, fun i hi => absurd hi (by omega), fun i hi => absurd hi (by omega), Nat.lt_succ_self _, fun i hi => absurd hi (by omega), hs1⟩, hs1, HB1.out⟩
  case round =>
    obtain ⟨k, ys, s, hk, rfl, HC, hs, hb⟩ := hrel
    by_cases hlt : k < rs.length
    · obtain ⟨b, o, rfl, hbl, hc⟩ := HR.out.out.rw (by omega)
      have c0 := (hb.cell (p := ⟨b, o + k, none⟩) hbl).trans (hc k hlt)
      have HE := Lib.hid (Nst.next (HR.out.each k hlt) hb)
      have HB := Lib.hid hb
      have HK := Lib.hid (show k < ys.length by have := HC.out.len; omega)
      have hi1 : (0 : Int) ≤ (k : Int) := by omega
      have hi2 : (k : Int) < (rs.length : Int) := by omega
      clear hc hb
      go_wp2_with (go_at_call 72; refine (cloneInt_r (it rs k) _ HE.out (HF.out k hlt) (HP.out k hlt)).mono ?_; rintro e w2 ⟨⟨y, rfl, he, ho⟩, hb2⟩; have HC2 := Lib.hid (HC.out.step hb2 hlt hs y he ho); have hs2 := Nat.lt_of_lt_of_le hs hb2.size; have HB2 := Lib.hid (below_next HB.out hb2); obtain ⟨d0, f0⟩ := (HC.out.own.block (hb2.block _ hs)).rw0 k HK.out; have hyl : k < ys.length := HK.out; clear hb2 he ho)
      go_roundw
      case rel => exact ⟨k + 1, _, _, by omega, by go_num, HC2, by simpa [World.setCell] using hs2, HB2.out.setCell (Nat.le_refl _) _⟩
      case measure => simp [intOf]; omega
    · obtain rfl : k = rs.length := by omega
      have HY := Lib.hid HC.out.len
      go_wp2
      go_ret
      exact ⟨⟨⟨some ⟨w.heap.size, 0, none⟩, rs.length, ys⟩, by
        show Ending.returned (.slice _ rs.length rs.length) = Ending.returned (.slice _ ys.length rs.length)
        rw [HY.out], ⟨HY.out, HC.out.eqv⟩, HC.out.done hs _⟩, hb⟩
theorem mk_pos {x : Mr} (h : MkL (ctt x.G) (ctt x.C)) : (∀ i, i < x.G.xs.length → 0 < (it x.G.xs i).xs.length) ∧ (∀ i, i < x.C.xs.length → 0 < (it x.C.xs i).xs.length) := by
  have hj := h.j3
  refine ⟨fun i hi => ?_, fun i hi => ?_⟩
  · have h1 := (h.gs i (by rw [ctt_len]; exact hi)).len
    rw [ctt_it] at h1
    omega
  · have h1 := (h.cs i (by rw [ctt_len]; exact hi)).len
    rw [ctt_it] at h1
    omega
set_option maxHeartbeats 4000000 in
set_option maxRecDepth 20000 in
theorem copyOfMarks_any (x : Mr) (w : World) (hr : MrIn w w.heap.size x) (hl : MrFits x) (hk : MkL (ctt x.G) (ctt x.C)) :
    Calls Try.prog 56 #[.agg #[.slice x.G.A x.G.xs.length x.G.c, .slice x.C.A x.C.xs.length x.C.c]] w fun e w' => (∃ y : Mr, e = .returned (.agg #[.slice y.G.A y.G.xs.length y.G.c, .slice y.C.A y.C.xs.length y.C.c]) ∧ MrSame x y ∧ MrOwn (iv w.heap.size w'.heap.size) w' y) ∧ Below w.heap.size w w' := by
  have HR := Lib.hid hr
  have HF := Lib.hid hl
  have HPG := Lib.hid (mk_pos hk).1
  have HPC := Lib.hid (mk_pos hk).2
  clear hr hl hk
  go_enter Try.func56, Try.ntmps56
  go_upto_region 1 with fail
  generalize hW : World.alloc (World.alloc w _) _ = W
  have HB0 := Lib.hid (show Below w.heap.size w W by
    rw [← hW]
    go_grown)
  have hS : W.heap.size = w.heap.size + 2 := by rw [← hW]; simp
  have HX := Lib.hid (show Mem2 W w.heap.size (.slice x.G.A x.G.xs.length x.G.c) (.slice x.C.A x.C.xs.length x.C.c) by
    rw [← hW]
    exact (mem2_new w _ _ rfl _ _).below ((Below.refl _ _).alloc (Nat.le_refl _) _) (by simp))
  have HM := Lib.hid (show Mem2 W (w.heap.size + 1) (.slice none 0 0) (.slice none 0 0) by
    rw [← hW]
    exact mem2_new _ _ _ (by simp) _ _)
  have HOW := Lib.hid (show w.heap.size < W.heap.size ∧ w.heap.size + 1 < W.heap.size by omega)
  have HSW := Lib.hid hS
  clear hW hS
  refine wp_region_F_drew (fun w' => w'.cell? ⟨w.heap.size, 0, none⟩ = some (.slice x.G.A x.G.xs.length x.G.c) ∧ w'.cell? ⟨w.heap.size, 1, none⟩ = some (.slice x.C.A x.C.xs.length x.C.c)) 7 (by kernel_rfl) ?_ (fun hHeld0 => ?_)
  · ((try dsimp only); first | (with_reducible exact ⟨(HX.out.below (below_drew W) HOW.out.1).c0, (HX.out.below (below_drew W) HOW.out.1).c1⟩) | (with_reducible exact ⟨(HX.out.below HLa.out HOW.out.1).c0, (HX.out.below HLa.out HOW.out.1).c1⟩) | (with_reducible exact ⟨(HX.out.below HLb.out HOW.out.1).c0, (HX.out.below HLb.out HOW.out.1).c1⟩) | fail)
  refine wpAnyF_take (i := 0) (oi := _) (v := ?_) rfl (by kernel_rfl) (by kernel_rfl) (by kernel_rfl) (by kernel_rfl) (fun _ _ _ h => h) (Or.inl ⟨by rfl, ?_⟩) (by assumption) ?_
  rotate_left
  · (intro w hSw; (try dsimp only at hSw); go_simp; try with_reducible rfl)
  try simp only [Act.put, List.setIfInBounds_toArray, List.set_cons_zero, List.set_cons_succ, List.getElem_toArray, List.getElem_cons_zero]
  refine wpAnyF_take (i := 1) (oi := _) (v := ?_) rfl (by kernel_rfl) (by kernel_rfl) (by kernel_rfl) (by kernel_rfl) (fun _ _ _ h => h) (Or.inl ⟨by rfl, ?_⟩) (by assumption) ?_
  rotate_left
  · (intro w hSw; (try dsimp only at hSw); go_simp; try with_reducible rfl)
  try simp only [Act.put, List.setIfInBounds_toArray, List.set_cons_zero, List.set_cons_succ, List.getElem_toArray, List.getElem_cons_zero, List.getElem_cons_succ]
  refine wpAnyF_take (i := 3) (oi := _) (v := ?_) rfl (by kernel_rfl) (by kernel_rfl) (by kernel_rfl) (by kernel_rfl) (fun _ _ _ h => h) (Or.inl ⟨by rfl, ?_⟩) (by assumption) ?_
  rotate_left
  · (intro w hSw; (try dsimp only at hSw); go_simp; try with_reducible rfl)
  try simp only [Act.put, List.setIfInBounds_toArray, List.set_cons_zero, List.set_cons_succ, List.getElem_toArray, List.getElem_cons_zero, List.getElem_cons_succ]
  refine wpAnyF_take (i := 4) (oi := _) (v := ?_) rfl (by kernel_rfl) (by kernel_rfl) (by kernel_rfl) (by kernel_rfl) (fun _ _ _ h => h) (Or.inl ⟨by rfl, ?_⟩) (by assumption) ?_
  rotate_left
  · (intro w hSw; (try dsimp only at hSw); go_simp; try with_reducible rfl)
  try simp only [Act.put, List.setIfInBounds_toArray, List.set_cons_zero, List.set_cons_succ, List.getElem_toArray, List.getElem_cons_zero, List.getElem_cons_succ]
  refine wpAnyF_one (i := 2) (by kernel_rfl) rfl (fun K hK => ?_)
  go_simp
  go_wp2_with (go_at_call 68; refine (copyOfRows_any x.G _ (Nst.next HR.out.g (below_next HB0.out (below_drew W))) HF.out.g HPG.out).mono ?_; rintro e wa ⟨⟨yG, rfl, hG1, hG2⟩, hb⟩; have HLa := Lib.hid (below_next (below_drew W) hb); have HG1 := Lib.hid hG1; have HG2 := Lib.hid hG2; clear hG1 hG2 hb)
  refine hK.out _ _ ?_ (fun hHeld1 => ?_)
  · ((try dsimp only); first | (with_reducible exact ⟨(HX.out.below (below_drew W) HOW.out.1).c0, (HX.out.below (below_drew W) HOW.out.1).c1⟩) | (with_reducible exact ⟨(HX.out.below HLa.out HOW.out.1).c0, (HX.out.below HLa.out HOW.out.1).c1⟩) | (with_reducible exact ⟨(HX.out.below HLb.out HOW.out.1).c0, (HX.out.below HLb.out HOW.out.1).c1⟩) | fail)
  clear hK K
  refine wpAnyF_one (i := 5) (by kernel_rfl) rfl (fun K hK => ?_)
  go_simp
  go_wp2_with (go_at_call 68; refine (copyOfRows_any x.C _ (Nst.next HR.out.c (below_next HB0.out HLa.out)) HF.out.c HPC.out).mono ?_; rintro e wb ⟨⟨yC, rfl, hC1, hC2⟩, hb⟩; have HLb := Lib.hid (below_next HLa.out hb); have HC1 := Lib.hid hC1; have HC2 := Lib.hid hC2; have HGb := Lib.hid (Nst.keepB HG2.out hb); have HZb := Lib.hid hb.size; obtain ⟨m0, m1, mf⟩ := HM.out.below HLb.out HOW.out.2; clear hC1 hC2 hb)
  refine hK.out _ _ ?_ (fun hHeld2 => ?_)
  · ((try dsimp only); first | (with_reducible exact ⟨(HX.out.below (below_drew W) HOW.out.1).c0, (HX.out.below (below_drew W) HOW.out.1).c1⟩) | (with_reducible exact ⟨(HX.out.below HLa.out HOW.out.1).c0, (HX.out.below HLa.out HOW.out.1).c1⟩) | (with_reducible exact ⟨(HX.out.below HLb.out HOW.out.1).c0, (HX.out.below HLb.out HOW.out.1).c1⟩) | fail)
  clear hK K
  refine wpAnyF_take (i := 6) (oi := _) (v := ?_) rfl (by kernel_rfl) (by kernel_rfl) (by kernel_rfl) (by kernel_rfl) (fun _ _ _ h => h) (Or.inl ⟨by rfl, ?_⟩) (by assumption) ?_
  rotate_left
  · (intro w hSw; (try dsimp only at hSw); go_simp; try with_reducible rfl)
  try simp only [Act.put, List.setIfInBounds_toArray, List.set_cons_zero, List.set_cons_succ, List.getElem_toArray, List.getElem_cons_zero, List.getElem_cons_succ]
  refine wpAnyF_last (by kernel_rfl) rfl (fun K hK => ?_)
  go_simp
  refine hK.out _ _ ?_
  clear hK K
  refine wpAnyF_done (by kernel_rfl) ?_ _
  go_wp2_with fail
  clear m0 m1 mf
  have hn9 := ((HM.out.below HLb.out HOW.out.2).set0 (.slice yG.A yG.xs.length yG.c)).set1 (.slice yC.A yC.xs.length yC.c)
  have ht : Only (fun i => i = w.heap.size + 1) wb ((wb.setCell ⟨w.heap.size + 1, 0, none⟩ (.slice yG.A yG.xs.length yG.c)).setCell ⟨w.heap.size + 1, 1, none⟩ (.slice yC.A yC.xs.length yC.c)) := ((Only.refl (fun i => i = w.heap.size + 1) wb).put (w.heap.size + 1) 0 rfl _).put (w.heap.size + 1) 1 rfl _
  obtain ⟨m0, m1, mf⟩ := hn9
  have h1 := HSW.out
  have h2 := HLa.out.size
  have h3 := HZb.out
  have hts := ht.size
  have HBE := Lib.hid (below_next HB0.out HLb.out)
  refine bodyPost_ret (v := .agg #[.slice yG.A yG.xs.length yG.c, .slice yC.A yC.xs.length yC.c]) (by simp [results, Try.results56, go_sem, m0, m1]) rfl ?_
  refine ⟨⟨⟨yG, yC⟩, rfl, ⟨HG1.out, HC1.out⟩, _, _, Nst.own_keep HGb.out ht (fun i hi e => ?_), Nst.own_keep HC2.out ht (fun i hi e => ?_), fun i hi => ?_, fun i hi => ?_, fun i h h' => ?_⟩, HBE.out.trans (ht.below (by have := HBE.out.size; omega) (fun i hi => by omega))⟩
  · have h4 := hi.1
    simp at h4
    omega
  · have h4 := hi.1
    omega
  · have h4 := hi.1
    have h5 := hi.2
    simp at h4
    exact ⟨by omega, by omega⟩
  · have h4 := hi.1
    have h5 := hi.2
    exact ⟨by omega, by omega⟩
  · have h4 := h.2
    have h5 := h'.1
    omega
end Go.Proofs.Ytfeffkjmjkddnaa
