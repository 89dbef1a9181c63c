/- AddChange of the model. -/
import Derived.Test.YthbkfekbpjkhnaaHiW
import Derived.Deep.RegionHeld3
namespace Go.Proofs.Ythbkfekbpjkhnaa
open Go.ChangeShapes Go.WideShapes Go.ChangeAt Go.RowKit Go.Lib Go.Proofs Go.PlainAid
set_option linter.unusedVariables false

set_option maxHeartbeats 2000000 in
set_option maxRecDepth 100000 in
theorem hiAdd_any (P : Option Addr) (c : Nat) (xs : List Im) (A : Option Addr) (ch : Nat) (hs : List Cg) (x : Cg) (w : World) (hr : Ims w w.heap.size P xs) (hg : Lst w w.heap.size A hs) (hok : HiOk xs hs) :
    Calls Try.prog 62 #[.slice P xs.length c, .slice A hs.length ch, x.val] w (CgAns w (adF xs hs x) (AdOk xs hs x)) := by
  obtain ⟨i0, hi, hz0, hz1, hz2⟩ := info_parts Try.infoCg
  have HZ := Lib.hid (And.intro hi (And.intro hz0 (And.intro hz1 hz2)))
  have HR := Lib.hid hr
  have HG := Lib.hid hg
  have HK0 := Lib.hid hok.1
  have h60 := hok.2.few
  have hlen : (hs ++ [x]).length = hs.length + 1 := by simp
  obtain ⟨ls, hls⟩ : ∃ ls, ls = hs ++ [x] := ⟨_, rfl⟩
  rw [← hls] at hlen
  have HLN := Lib.hid hlen
  have HLS := Lib.hid hls
  clear hr hg hok hi hz0 hz1 hz2 hlen hls
  unfold Cg.val
  go_enter Try.func62, Try.ntmps62
  go_wp2_with fail
  generalize hW : World.alloc w _ = W0
  have HXW := Lib.hid (show CgBx W0.drew w.heap.size x from by rw [← hW]; exact (cgBx_new w x 50).below (below_drew _) (by simp))
  have HBW := Lib.hid (show Below w.heap.size w W0.drew from by rw [← hW]; exact below_next (below_alloc _ _) (below_drew _))
  have hlW : w.heap.size < W0.drew.heap.size := by rw [← hW]; show w.heap.size < (w.alloc _).heap.size; simp
  clear hW
  refine wp_region_held_drew (S := (fun w' => w'.cell? ⟨w.heap.size, 0, none⟩ = some (.int .i64 x.tick) ∧ w'.cell? ⟨w.heap.size, 1, none⟩ = some (.int .i64 x.caller) ∧ w'.cell? ⟨w.heap.size, 2, none⟩ = some (.int .i64 x.item) ∧ w'.cell? ⟨w.heap.size, 3, none⟩ = some (.int .i64 x.name) ∧ w'.cell? ⟨w.heap.size, 4, none⟩ = some (.int .i64 x.mark) ∧ w'.cell? ⟨w.heap.size, 5, none⟩ = some (.bool x.review))) (by kernel_rfl) ?_ (fun hHeld0 => ?_)
  · exact HXW.out.all
  clear hHeld0
  generalize hWW : W0.drew = W at HXW HBW hlW ⊢
  clear hWW
  have hHeld0 := HXW.out.all
  refine wpAnyH_take (i := 1) (oi := _) (v := ?_) rfl (by kernel_rfl) (by kernel_rfl) (by kernel_rfl) (fun _ _ _ h => h) (Or.inl ⟨by rfl, ?_⟩) (by assumption) ?_
  rotate_left
  · (intro w hSw; (try dsimp only at hSw); go_simp; try with_reducible rfl)
  try simp only [Act.put, List.setIfInBounds_toArray, List.set_cons_zero, List.set_cons_succ, List.getElem_toArray, List.getElem_cons_zero, List.getElem_cons_succ]
  refine wpAnyH_take (i := 3) (oi := _) (v := ?_) rfl (by kernel_rfl) (by kernel_rfl) (by kernel_rfl) (fun _ _ _ h => h) (Or.inl ⟨by rfl, ?_⟩) (by assumption) ?_
  rotate_left
  · (intro w hSw; (try dsimp only at hSw); go_simp; try with_reducible rfl)
  try simp only [Act.put, List.setIfInBounds_toArray, List.set_cons_zero, List.set_cons_succ, List.getElem_toArray, List.getElem_cons_zero, List.getElem_cons_succ]
  refine wpAnyH_ready (rs := [0, 4]) (by kernel_rfl) (by simp) ?_
  refine AllReadyH.cons rfl (fun K hK => ?_) ?_
  · go_simp
    refine hK.out _ _ ?_ (fun _ => ?_)
    · exact (HXW.out.below (below_alloc _ _) hlW).all
    clear hK K
    generalize hg : World.alloc W _ = Wa
    have HXWa := Lib.hid (show CgBx Wa w.heap.size x from by rw [← hg]; exact HXW.out.below (below_alloc _ _) hlW)
    have HBWa := Lib.hid (show Below w.heap.size w Wa from by rw [← hg]; exact Below_next HBW.out (below_alloc _ _))
    have hslWa : W.heap.size + 1 ≤ Wa.heap.size := by rw [← hg]; simp
    have hsuWa : Wa.heap.size ≤ W.heap.size + 1 := by rw [← hg]; simp
    have hlWa : w.heap.size < Wa.heap.size := by omega
    have HEWa := Lib.hid (show Wa.ownsRow (w.heap.size + 1) 50 6 (.slice (some ⟨W.heap.size, 0, none⟩) 0 0) 0 [] from by rw [← hg]; exact owns_emptyN _ _ _ _ _ (by omega) (heap_at_new _ _ _ rfl))
    clear hg
    refine wpAnyH_ready (rs := [2, 4]) (by kernel_rfl) (by simp) ?_
    refine AllReadyH.cons rfl (fun K hK => ?_) ?_
    · refine step_append_srcN _ (by rfl) (.tmp 9) (.tmp 10) 30 (by rfl) (w.heap.size + 1) 50 i0 (.agg #[.int .i64 0, .int .i64 0, .int .i64 0, .int .i64 0, .int .i64 0, .bool false]) 6 48 (by decide) Try.underlying30 HZ.out.1 HZ.out.2.1 HZ.out.2.2.1 HZ.out.2.2.2 rfl _ 0 [] (by rfl) HEWa.out A hs.length ch (hs.flatMap Flat.cells) (by rfl) (by rw [flat_len]; rfl) (fun hp => lst_flat HG.out HBWa.out (show 0 < Flat.sz Cg by decide) hp) (cg_one hs) (by unfold maxLen; omega) (by omega) (by omega) ?_
      intro v1 w5 hown hgrow hat
      have hz := hgrow.size
      have HXw5 := Lib.hid (HXWa.out.keep (hgrow.block w.heap.size hlWa (fun r => by have := (HEWa.out.lt w.heap.size r.symm).1; omega)))
      have HBw5 := Lib.hid (Below.grown HBWa.out hgrow (by omega) (fun m e => by have := (HEWa.out.lt m e).1; omega))
      have hlw5 : w.heap.size < w5.heap.size := by omega
      have HEw5 := Lib.hid hown
      clear hown hgrow hat
      refine hK.out _ _ ?_ (fun _ => ?_)
      · exact HXw5.out.all
      clear hK K
      refine wpAnyH_ready (rs := [4]) (by kernel_rfl) (by simp) ?_
      refine AllReadyH.cons rfl (fun K hK => ?_) ?_
      rotate_left
      · exact AllReadyH.nil
      go_simp
      refine hK.out _ _ ?_ (fun _ => ?_)
      · exact (HXw5.out.below (below_alloc _ _) hlw5).all
      clear hK K
      generalize hg : World.alloc w5 _ = Wb
      have HXWb := Lib.hid (show CgBx Wb w.heap.size x from by rw [← hg]; exact HXw5.out.below (below_alloc _ _) hlw5)
      have HBWb := Lib.hid (show Below w.heap.size w Wb from by rw [← hg]; exact Below_next HBw5.out (below_alloc _ _))
      have hslWb : w5.heap.size + 1 ≤ Wb.heap.size := by rw [← hg]; simp
      have hsuWb : Wb.heap.size ≤ w5.heap.size + 1 := by rw [← hg]; simp
      have hlWb : w.heap.size < Wb.heap.size := by omega
      have HKWb := Lib.hid (show CgBx Wb w5.heap.size x from by rw [← hg]; exact cgBx_new w5 x _)
      have HEWb := Lib.hid (own_next HEw5.out (show Below w5.heap.size w5 Wb from by rw [← hg]; exact below_alloc _ _))
      clear hg
      refine wpAnyH_ready (rs := [5]) (by kernel_rfl) (by simp) ?_
      refine AllReadyH.cons rfl (fun K hK => ?_) ?_
      rotate_left
      · exact AllReadyH.nil
      refine step_append_srcN _ (by rfl) (.tmp 11) (.tmp 13) 30 (by rfl) (w.heap.size + 1) 50 i0 (.agg #[.int .i64 0, .int .i64 0, .int .i64 0, .int .i64 0, .int .i64 0, .bool false]) 6 48 (by decide) Try.underlying30 HZ.out.1 HZ.out.2.1 HZ.out.2.2.1 HZ.out.2.2.2 rfl _ (0 + hs.length) ([] ++ hs.flatMap Flat.cells) (by rfl) HEWb.out (some ⟨w5.heap.size, 0, none⟩) 1 1 ([x].flatMap Flat.cells) (by rfl) (by rw [flat_len]; rfl) (fun hp => lst_flat (one_part HKWb.out (by omega)) (Below.refl _ _) (show 0 < Flat.sz Cg by decide) hp) (cg_one [x]) (by unfold maxLen; omega) (by omega) (by omega) ?_
      intro v2 w7 hown hgrow hat
      have hz := hgrow.size
      have HXw7 := Lib.hid (HXWb.out.keep (hgrow.block w.heap.size hlWb (fun r => by have := (HEWb.out.lt w.heap.size r.symm).1; omega)))
      have HBw7 := Lib.hid (Below.grown HBWb.out hgrow (by omega) (fun m e => by have := (HEWb.out.lt m e).1; omega))
      have hlw7 : w.heap.size < w7.heap.size := by omega
      have HEw7 := Lib.hid hown
      clear hown hgrow hat
      refine hK.out _ _ ?_ (fun _ => ?_)
      · exact HXw7.out.all
      clear hK K
      refine wpAnyH_take (i := 6) (oi := _) (v := ?_) rfl (by kernel_rfl) (by kernel_rfl) (by kernel_rfl) (fun _ _ _ h => h) (Or.inl ⟨by rfl, ?_⟩) (by assumption) ?_
      rotate_left
      · (intro w hSw; (try dsimp only at hSw); go_simp; try with_reducible rfl)
      try simp only [Act.put, List.setIfInBounds_toArray, List.set_cons_zero, List.set_cons_succ, List.getElem_toArray, List.getElem_cons_zero, List.getElem_cons_succ]
      refine wpAnyH_done (by kernel_rfl) ?_ _
      have hrow : w7.ownsRow (w.heap.size + 1) 50 6 v2 ls.length (ls.flatMap Flat.cells) := by
        have h := HEw7.out
        rw [List.nil_append, Nat.zero_add, ← List.flatMap_append] at h
        rw [HLN.out, HLS.out]
        exact h
      obtain ⟨R, d, rfl, hd, ho⟩ := cgs_form hrow
      have HO := Lib.hid ho
      have HD := Lib.hid hd
      clear hrow ho hd
      have HGD := Lib.hid (hiGood_any P c xs R d ls w7 (HR.out.next HBw7.out) HK0.out HO.out.lst (by rw [HLN.out]; omega))
      by_cases hok : HiG xs ls
      · have hya : AdOk xs hs x := ⟨HK0.out, by rw [← HLS.out]; exact hok⟩
        have HV := Lib.hid (And.intro hya (show adF xs hs x = ls by rw [HLS.out]; exact adF_yes hya))
        clear hya
        rw [pB_yes hok] at HGD
        clear hok
        go_wp2_with (go_at_call 46; refine HGD.out.mono ?_; rintro e w9 ⟨rfl, hb9⟩; have HB9 := Lib.hid (Below_next HBw7.out hb9); have HO9 := Lib.hid (HO.out.keepB hb9); have hs9 := hb9.size; clear hb9)
        go_returns
        exact cgAns_yes HV.out.1 HV.out.2 (HO9.out.mono (fun i hi => ⟨by have := hi.1; omega, Nat.lt_of_lt_of_le hi.2 hs9⟩)) HB9.out
      · have hna : ¬ AdOk xs hs x := fun h => hok (by rw [HLS.out]; exact h.2)
        have HV := Lib.hid (And.intro hna (adF_no hna))
        rw [pB_no hok] at HGD
        clear hok hna
        go_wp2_with (go_at_call 46; refine HGD.out.mono ?_; rintro e w9 ⟨rfl, hb9⟩; have HB9 := Lib.hid (Below_next HBw7.out hb9); clear hb9)
        go_returns
        exact cgAns_no HV.out.1 HV.out.2 HB9.out
    refine AllReadyH.cons rfl (fun K hK => ?_) ?_
    · go_simp
      refine hK.out _ _ ?_ (fun _ => ?_)
      · exact (HXWa.out.below (below_alloc _ _) hlWa).all
      clear hK K
      generalize hg : World.alloc Wa _ = Wb
      have HXWb := Lib.hid (show CgBx Wb w.heap.size x from by rw [← hg]; exact HXWa.out.below (below_alloc _ _) hlWa)
      have HBWb := Lib.hid (show Below w.heap.size w Wb from by rw [← hg]; exact Below_next HBWa.out (below_alloc _ _))
      have hslWb : Wa.heap.size + 1 ≤ Wb.heap.size := by rw [← hg]; simp
      have hsuWb : Wb.heap.size ≤ Wa.heap.size + 1 := by rw [← hg]; simp
      have hlWb : w.heap.size < Wb.heap.size := by omega
      have HKWb := Lib.hid (show CgBx Wb Wa.heap.size x from by rw [← hg]; exact cgBx_new Wa x _)
      have HEWb := Lib.hid (own_next HEWa.out (show Below Wa.heap.size Wa Wb from by rw [← hg]; exact below_alloc _ _))
      clear hg
      refine wpAnyH_ready (rs := [2]) (by kernel_rfl) (by simp) ?_
      refine AllReadyH.cons rfl (fun K hK => ?_) ?_
      rotate_left
      · exact AllReadyH.nil
      refine step_append_srcN _ (by rfl) (.tmp 9) (.tmp 10) 30 (by rfl) (w.heap.size + 1) 50 i0 (.agg #[.int .i64 0, .int .i64 0, .int .i64 0, .int .i64 0, .int .i64 0, .bool false]) 6 48 (by decide) Try.underlying30 HZ.out.1 HZ.out.2.1 HZ.out.2.2.1 HZ.out.2.2.2 rfl _ 0 [] (by rfl) HEWb.out A hs.length ch (hs.flatMap Flat.cells) (by rfl) (by rw [flat_len]; rfl) (fun hp => lst_flat HG.out HBWb.out (show 0 < Flat.sz Cg by decide) hp) (cg_one hs) (by unfold maxLen; omega) (by omega) (by omega) ?_
      intro v1 w5 hown hgrow hat
      have hz := hgrow.size
      have HXw5 := Lib.hid (HXWb.out.keep (hgrow.block w.heap.size hlWb (fun r => by have := (HEWb.out.lt w.heap.size r.symm).1; omega)))
      have HBw5 := Lib.hid (Below.grown HBWb.out hgrow (by omega) (fun m e => by have := (HEWb.out.lt m e).1; omega))
      have hlw5 : w.heap.size < w5.heap.size := by omega
      have HEw5 := Lib.hid hown
      have HKw5 := Lib.hid (HKWb.out.keep (hgrow.block Wa.heap.size (by omega) (fun r => by have q : Wa.heap.size = W.heap.size := (by simpa [Value.ownBlock] using r); omega)))
      clear hown hgrow hat
      refine hK.out _ _ ?_ (fun _ => ?_)
      · exact HXw5.out.all
      clear hK K
      refine wpAnyH_ready (rs := [5]) (by kernel_rfl) (by simp) ?_
      refine AllReadyH.cons rfl (fun K hK => ?_) ?_
      rotate_left
      · exact AllReadyH.nil
      refine step_append_srcN _ (by rfl) (.tmp 11) (.tmp 13) 30 (by rfl) (w.heap.size + 1) 50 i0 (.agg #[.int .i64 0, .int .i64 0, .int .i64 0, .int .i64 0, .int .i64 0, .bool false]) 6 48 (by decide) Try.underlying30 HZ.out.1 HZ.out.2.1 HZ.out.2.2.1 HZ.out.2.2.2 rfl _ (0 + hs.length) ([] ++ hs.flatMap Flat.cells) (by rfl) HEw5.out (some ⟨Wa.heap.size, 0, none⟩) 1 1 ([x].flatMap Flat.cells) (by rfl) (by rw [flat_len]; rfl) (fun hp => lst_flat (one_part HKw5.out (by omega)) (Below.refl _ _) (show 0 < Flat.sz Cg by decide) hp) (cg_one [x]) (by unfold maxLen; omega) (by omega) (by omega) ?_
      intro v2 w7 hown hgrow hat
      have hz := hgrow.size
      have HXw7 := Lib.hid (HXw5.out.keep (hgrow.block w.heap.size hlw5 (fun r => by have := (HEw5.out.lt w.heap.size r.symm).1; omega)))
      have HBw7 := Lib.hid (Below.grown HBw5.out hgrow (by omega) (fun m e => by have := (HEw5.out.lt m e).1; omega))
      have hlw7 : w.heap.size < w7.heap.size := by omega
      have HEw7 := Lib.hid hown
      clear hown hgrow hat
      refine hK.out _ _ ?_ (fun _ => ?_)
      · exact HXw7.out.all
      clear hK K
      refine wpAnyH_take (i := 6) (oi := _) (v := ?_) rfl (by kernel_rfl) (by kernel_rfl) (by kernel_rfl) (fun _ _ _ h => h) (Or.inl ⟨by rfl, ?_⟩) (by assumption) ?_
      rotate_left
      · (intro w hSw; (try dsimp only at hSw); go_simp; try with_reducible rfl)
      try simp only [Act.put, List.setIfInBounds_toArray, List.set_cons_zero, List.set_cons_succ, List.getElem_toArray, List.getElem_cons_zero, List.getElem_cons_succ]
      refine wpAnyH_done (by kernel_rfl) ?_ _
      have hrow : w7.ownsRow (w.heap.size + 1) 50 6 v2 ls.length (ls.flatMap Flat.cells) := by
        have h := HEw7.out
        rw [List.nil_append, Nat.zero_add, ← List.flatMap_append] at h
        rw [HLN.out, HLS.out]
        exact h
      obtain ⟨R, d, rfl, hd, ho⟩ := cgs_form hrow
      have HO := Lib.hid ho
      have HD := Lib.hid hd
      clear hrow ho hd
      have HGD := Lib.hid (hiGood_any P c xs R d ls w7 (HR.out.next HBw7.out) HK0.out HO.out.lst (by rw [HLN.out]; omega))
      by_cases hok : HiG xs ls
      · have hya : AdOk xs hs x := ⟨HK0.out, by rw [← HLS.out]; exact hok⟩
        have HV := Lib.hid (And.intro hya (show adF xs hs x = ls by rw [HLS.out]; exact adF_yes hya))
        clear hya
        rw [pB_yes hok] at HGD
        clear hok
        go_wp2_with (go_at_call 46; refine HGD.out.mono ?_; rintro e w9 ⟨rfl, hb9⟩; have HB9 := Lib.hid (Below_next HBw7.out hb9); have HO9 := Lib.hid (HO.out.keepB hb9); have hs9 := hb9.size; clear hb9)
        go_returns
        exact cgAns_yes HV.out.1 HV.out.2 (HO9.out.mono (fun i hi => ⟨by have := hi.1; omega, Nat.lt_of_lt_of_le hi.2 hs9⟩)) HB9.out
      · have hna : ¬ AdOk xs hs x := fun h => hok (by rw [HLS.out]; exact h.2)
        have HV := Lib.hid (And.intro hna (adF_no hna))
        rw [pB_no hok] at HGD
        clear hok hna
        go_wp2_with (go_at_call 46; refine HGD.out.mono ?_; rintro e w9 ⟨rfl, hb9⟩; have HB9 := Lib.hid (Below_next HBw7.out hb9); clear hb9)
        go_returns
        exact cgAns_no HV.out.1 HV.out.2 HB9.out
    exact AllReadyH.nil
  refine AllReadyH.cons rfl (fun K hK => ?_) ?_
  · go_simp
    refine hK.out _ _ ?_ (fun _ => ?_)
    · exact (HXW.out.below (below_alloc _ _) hlW).all
    clear hK K
    generalize hg : World.alloc W _ = Wx
    have HXWx := Lib.hid (show CgBx Wx w.heap.size x from by rw [← hg]; exact HXW.out.below (below_alloc _ _) hlW)
    have HBWx := Lib.hid (show Below w.heap.size w Wx from by rw [← hg]; exact Below_next HBW.out (below_alloc _ _))
    have hslWx : W.heap.size + 1 ≤ Wx.heap.size := by rw [← hg]; simp
    have hsuWx : Wx.heap.size ≤ W.heap.size + 1 := by rw [← hg]; simp
    have hlWx : w.heap.size < Wx.heap.size := by omega
    have HKWx := Lib.hid (show CgBx Wx W.heap.size x from by rw [← hg]; exact cgBx_new W x _)
    clear hg
    refine wpAnyH_ready (rs := [0]) (by kernel_rfl) (by simp) ?_
    refine AllReadyH.cons rfl (fun K hK => ?_) ?_
    rotate_left
    · exact AllReadyH.nil
    go_simp
    refine hK.out _ _ ?_ (fun _ => ?_)
    · exact (HXWx.out.below (below_alloc _ _) hlWx).all
    clear hK K
    generalize hg : World.alloc Wx _ = Wa
    have HXWa := Lib.hid (show CgBx Wa w.heap.size x from by rw [← hg]; exact HXWx.out.below (below_alloc _ _) hlWx)
    have HBWa := Lib.hid (show Below w.heap.size w Wa from by rw [← hg]; exact Below_next HBWx.out (below_alloc _ _))
    have hslWa : Wx.heap.size + 1 ≤ Wa.heap.size := by rw [← hg]; simp
    have hsuWa : Wa.heap.size ≤ Wx.heap.size + 1 := by rw [← hg]; simp
    have hlWa : w.heap.size < Wa.heap.size := by omega
    have HEWa := Lib.hid (show Wa.ownsRow (w.heap.size + 1) 50 6 (.slice (some ⟨Wx.heap.size, 0, none⟩) 0 0) 0 [] from by rw [← hg]; exact owns_emptyN _ _ _ _ _ (by omega) (heap_at_new _ _ _ rfl))
    have HKWa := Lib.hid (show CgBx Wa W.heap.size x from by rw [← hg]; exact HKWx.out.below (below_alloc _ _) (by omega))
    clear hg
    refine wpAnyH_ready (rs := [2]) (by kernel_rfl) (by simp) ?_
    refine AllReadyH.cons rfl (fun K hK => ?_) ?_
    rotate_left
    · exact AllReadyH.nil
    refine step_append_srcN _ (by rfl) (.tmp 9) (.tmp 10) 30 (by rfl) (w.heap.size + 1) 50 i0 (.agg #[.int .i64 0, .int .i64 0, .int .i64 0, .int .i64 0, .int .i64 0, .bool false]) 6 48 (by decide) Try.underlying30 HZ.out.1 HZ.out.2.1 HZ.out.2.2.1 HZ.out.2.2.2 rfl _ 0 [] (by rfl) HEWa.out A hs.length ch (hs.flatMap Flat.cells) (by rfl) (by rw [flat_len]; rfl) (fun hp => lst_flat HG.out HBWa.out (show 0 < Flat.sz Cg by decide) hp) (cg_one hs) (by unfold maxLen; omega) (by omega) (by omega) ?_
    intro v1 w5 hown hgrow hat
    have hz := hgrow.size
    have HXw5 := Lib.hid (HXWa.out.keep (hgrow.block w.heap.size hlWa (fun r => by have := (HEWa.out.lt w.heap.size r.symm).1; omega)))
    have HBw5 := Lib.hid (Below.grown HBWa.out hgrow (by omega) (fun m e => by have := (HEWa.out.lt m e).1; omega))
    have hlw5 : w.heap.size < w5.heap.size := by omega
    have HEw5 := Lib.hid hown
    have HKw5 := Lib.hid (HKWa.out.keep (hgrow.block W.heap.size (by omega) (fun r => by have q : W.heap.size = Wx.heap.size := (by simpa [Value.ownBlock] using r); omega)))
    clear hown hgrow hat
    refine hK.out _ _ ?_ (fun _ => ?_)
    · exact HXw5.out.all
    clear hK K
    refine wpAnyH_ready (rs := [5]) (by kernel_rfl) (by simp) ?_
    refine AllReadyH.cons rfl (fun K hK => ?_) ?_
    rotate_left
    · exact AllReadyH.nil
    refine step_append_srcN _ (by rfl) (.tmp 11) (.tmp 13) 30 (by rfl) (w.heap.size + 1) 50 i0 (.agg #[.int .i64 0, .int .i64 0, .int .i64 0, .int .i64 0, .int .i64 0, .bool false]) 6 48 (by decide) Try.underlying30 HZ.out.1 HZ.out.2.1 HZ.out.2.2.1 HZ.out.2.2.2 rfl _ (0 + hs.length) ([] ++ hs.flatMap Flat.cells) (by rfl) HEw5.out (some ⟨W.heap.size, 0, none⟩) 1 1 ([x].flatMap Flat.cells) (by rfl) (by rw [flat_len]; rfl) (fun hp => lst_flat (one_part HKw5.out (by omega)) (Below.refl _ _) (show 0 < Flat.sz Cg by decide) hp) (cg_one [x]) (by unfold maxLen; omega) (by omega) (by omega) ?_
    intro v2 w7 hown hgrow hat
    have hz := hgrow.size
    have HXw7 := Lib.hid (HXw5.out.keep (hgrow.block w.heap.size hlw5 (fun r => by have := (HEw5.out.lt w.heap.size r.symm).1; omega)))
    have HBw7 := Lib.hid (Below.grown HBw5.out hgrow (by omega) (fun m e => by have := (HEw5.out.lt m e).1; omega))
    have hlw7 : w.heap.size < w7.heap.size := by omega
    have HEw7 := Lib.hid hown
    clear hown hgrow hat
    refine hK.out _ _ ?_ (fun _ => ?_)
    · exact HXw7.out.all
    clear hK K
    refine wpAnyH_take (i := 6) (oi := _) (v := ?_) rfl (by kernel_rfl) (by kernel_rfl) (by kernel_rfl) (fun _ _ _ h => h) (Or.inl ⟨by rfl, ?_⟩) (by assumption) ?_
    rotate_left
    · (intro w hSw; (try dsimp only at hSw); go_simp; try with_reducible rfl)
    try simp only [Act.put, List.setIfInBounds_toArray, List.set_cons_zero, List.set_cons_succ, List.getElem_toArray, List.getElem_cons_zero, List.getElem_cons_succ]
    refine wpAnyH_done (by kernel_rfl) ?_ _
    have hrow : w7.ownsRow (w.heap.size + 1) 50 6 v2 ls.length (ls.flatMap Flat.cells) := by
      have h := HEw7.out
      rw [List.nil_append, Nat.zero_add, ← List.flatMap_append] at h
      rw [HLN.out, HLS.out]
      exact h
    obtain ⟨R, d, rfl, hd, ho⟩ := cgs_form hrow
    have HO := Lib.hid ho
    have HD := Lib.hid hd
    clear hrow ho hd
    have HGD := Lib.hid (hiGood_any P c xs R d ls w7 (HR.out.next HBw7.out) HK0.out HO.out.lst (by rw [HLN.out]; omega))
    by_cases hok : HiG xs ls
    · have hya : AdOk xs hs x := ⟨HK0.out, by rw [← HLS.out]; exact hok⟩
      have HV := Lib.hid (And.intro hya (show adF xs hs x = ls by rw [HLS.out]; exact adF_yes hya))
      clear hya
      rw [pB_yes hok] at HGD
      clear hok
      go_wp2_with (go_at_call 46; refine HGD.out.mono ?_; rintro e w9 ⟨rfl, hb9⟩; have HB9 := Lib.hid (Below_next HBw7.out hb9); have HO9 := Lib.hid (HO.out.keepB hb9); have hs9 := hb9.size; clear hb9)
      go_returns
      exact cgAns_yes HV.out.1 HV.out.2 (HO9.out.mono (fun i hi => ⟨by have := hi.1; omega, Nat.lt_of_lt_of_le hi.2 hs9⟩)) HB9.out
    · have hna : ¬ AdOk xs hs x := fun h => hok (by rw [HLS.out]; exact h.2)
      have HV := Lib.hid (And.intro hna (adF_no hna))
      rw [pB_no hok] at HGD
      clear hok hna
      go_wp2_with (go_at_call 46; refine HGD.out.mono ?_; rintro e w9 ⟨rfl, hb9⟩; have HB9 := Lib.hid (Below_next HBw7.out hb9); clear hb9)
      go_returns
      exact cgAns_no HV.out.1 HV.out.2 HB9.out
  exact AllReadyH.nil
set_option maxHeartbeats 2000000 in
theorem sAddChange_a (P : Option Addr) (c : Nat) (xs : List Im) (A : Option Addr) (ch : Nat) (hs : List Cg) (x : Cg) (w : World) (hr : Ims w w.heap.size P xs) (hl : ImsFits xs) (hg : Lst w w.heap.size A hs) (hgl : hs.length ≤ 1048576) :
    Calls Try.prog 31 #[.slice P xs.length c, .slice A hs.length ch, x.val] w (CgAns w (adF xs hs x) (AdOk xs hs x)) := by
  have hb0 := below_alloc w (x.obj 50)
  have HX := Lib.hid (cgBx_new w x 50)
  have HR := Lib.hid (hr.next hb0)
  have HG := Lib.hid ((hg.below hb0 (Nat.le_refl _)).up hb0.size)
  have HB := Lib.hid hb0
  have HA := Lib.hid (hiAsked_any P c xs A ch hs _ (hr.next hb0) hl ((hg.below hb0 (Nat.le_refl _)).up hb0.size) hgl)
  have hsz : w.heap.size < (w.alloc (x.obj 50)).heap.size := by simp
  unfold Cg.obj at HX HR HG HB HA hsz
  clear hr hl hg hb0
  unfold CgAns
  by_cases hok : HiOk xs hs
  · have HADD := Lib.hid (fun W (h1 : Ims W W.heap.size P xs) (h2 : Lst W W.heap.size A hs) => hiAdd_any P c xs A ch hs x W h1 h2 hok)
    unfold CgAns Cg.val at HADD
    rw [pB_yes hok] at HA
    clear hok
    unfold Cg.val
    go_enter Try.func31, Try.ntmps31
    go_wp2_with fail
    generalize World.alloc w _ = W at HX HR HG HB HA hsz ⊢
    refine HA.out.mono ?_
    rintro e w1 ⟨rfl, hb1⟩
    have HB1 := Lib.hid (Below_next HB.out hb1)
    have hs1 := hb1.size
    obtain ⟨x0, x1, x2, x3, x4, x5⟩ := HX.out.below hb1 hsz
    have HR1 := Lib.hid (HR.out.next hb1)
    have HG1 := Lib.hid ((HG.out.below hb1 (Nat.le_refl _)).up hb1.size)
    clear hb1 HA
    go_wp2_with (go_at_call 62; refine (HADD.out _ HR1.out HG1.out).mono ?_; rintro e w2 ⟨⟨R, d, rfl, ho⟩, hb2⟩; have HB2 := Lib.hid (Below_next HB1.out hb2); have HO2 := Lib.hid ho; clear ho hb2)
    go_returns
    exact ⟨⟨R, d, rfl, HO2.out.mono (fun i hi => ⟨by have := hi.1; omega, hi.2⟩)⟩, HB2.out⟩
  · have hna : ¬ AdOk xs hs x := fun h => hok h.pre
    have HV := Lib.hid (And.intro hna (adF_no hna))
    rw [pB_no hok] at HA
    clear hok hna
    unfold Cg.val
    go_enter Try.func31, Try.ntmps31
    go_wp2_with fail
    generalize World.alloc w _ = W at HX HR HG HB HA hsz ⊢
    refine HA.out.mono ?_
    rintro e w1 ⟨rfl, hb1⟩
    have HB1 := Lib.hid (Below_next HB.out hb1)
    clear hb1 HA
    go_wp2
    go_returns
    exact cgAns_no HV.out.1 HV.out.2 HB1.out
theorem sAddChange_any (P : Option Addr) (c : Nat) (xs : List Im) (A : Option Addr) (ch : Nat) (hs : List Cg) (x : Cg) (w : World) (hr : Ims w w.heap.size P xs) (hl : ImsFits xs) (hg : Lst w w.heap.size A hs) (hgl : hs.length ≤ 1048576) (hcap : hs.length ≤ ch ∧ ch ≤ 9223372036854775807) :
    Calls Try.prog 31 #[.slice P xs.length c, .slice A hs.length ch, x.val] w fun e w' => (∃ R d, e = .returned (.tuple #[.slice R (adF xs hs x).length d, .bool (pB (AdOk xs hs x))]) ∧ Owned (fun i => w.heap.size ≤ i ∧ i < w'.heap.size) w' R (adF xs hs x)) ∧ Below w.heap.size w w' :=
  (sAddChange_a P c xs A ch hs x w hr hl hg hgl).mono fun _ _ h => h
theorem iAddChange_any (P : Option Addr) (c : Nat) (xs : List Im) (A : Option Addr) (ch : Nat) (hs : List Cg) (x : Cg) (w : World) (hr : Ims w w.heap.size P xs) (hl : ImsFits xs) (hg : Lst w w.heap.size A hs) (hgl : hs.length ≤ 1048576) (hcap : hs.length ≤ ch ∧ ch ≤ 9223372036854775807) :
    Calls Try.prog 33 #[.slice P xs.length c, .slice A hs.length ch, x.val] w fun e w' => (∃ R d, e = .returned (.tuple #[.slice R (adF xs hs x).length d, .bool (pB (AdOk xs hs x))]) ∧ Owned (fun i => w.heap.size ≤ i ∧ i < w'.heap.size) w' R (adF xs hs x)) ∧ Below w.heap.size w w' :=
  (iAddChange_a P c xs A ch hs x w hr hl hg hgl).mono fun _ _ h => h
end Go.Proofs.Ythbkfekbpjkhnaa
