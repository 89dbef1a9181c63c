/- DropJudge, of both sides. -/
import Derived.Test.YtfeffkjmjkddnaaMrS
import Derived.Test.YtfeffkjmjkddnaaMrO
import Derived.Deep.Cut
namespace Go.Proofs.Ytfeffkjmjkddnaa
open Go.ChangeShapes Go.WideShapes Go.ChangeAt Go.RowKit Go.Lib Go.Proofs Go.PlainAid
set_option linter.unusedVariables false

structure DjOk (g c : List (List Int)) (j : Int) : Prop where
  has : MkHas g c j
  ok : MkL (g.map (dropJ j.toNat)) (c.map (dropJ j.toNat))
noncomputable def djG (g c : List (List Int)) (j : Int) : List (List Int) := pIf (DjOk g c j) (g.map (dropJ j.toNat)) []
noncomputable def djC (g c : List (List Int)) (j : Int) : List (List Int) := pIf (DjOk g c j) (c.map (dropJ j.toNat)) []
theorem dj_no {g c : List (List Int)} {j : Int} (h : ¬ DjOk g c j) : djG g c j = [] ∧ djC g c j = [] := ⟨pIf_no h, pIf_no h⟩
theorem dj_yes {g c : List (List Int)} {j : Int} (h : DjOk g c j) : djG g c j = g.map (dropJ j.toNat) ∧ djC g c j = c.map (dropJ j.toNat) := ⟨pIf_yes h, pIf_yes h⟩
theorem dj_fits {g c : List (List Int)} {j : Int} {y : Mr} (h : ctt y.G = djG g c j) (k : ctt y.C = djC g c j) : MrFits y := by
  by_cases q : DjOk g c j
  · rw [(dj_yes q).1] at h
    rw [(dj_yes q).2] at k
    exact mkL_fits (by rw [h, k]; exact q.ok)
  · rw [(dj_no q).1] at h
    rw [(dj_no q).2] at k
    exact ⟨nil_fit h, nil_fit k⟩
theorem drop_rows {Q : Int → Prop} {J j : Nat} {g : List (List Int)} (h : RowsV Q J g) (hj : j < J) : RowsV (fun _ => True) (J - 1) (g.map (dropJ j)) := fun i hi => by
  rw [List.length_map] at hi
  rw [mapL_it _ _ _ hi]
  exact ⟨by rw [dropJ_len _ _ (by rw [(h i hi).len]; exact hj), (h i hi).len], fun _ _ => trivial⟩
theorem drop_fits {x y : Mr} {j : Nat} (hk : MkL (ctt x.G) (ctt x.C)) (hj : j < jgs (ctt x.C)) (h1 : ctt y.G = (ctt x.G).map (dropJ j)) (h2 : ctt y.C = (ctt x.C).map (dropJ j)) : MrFits y := by
  have h9 := hk.j9
  have hf := hk.few
  have ht := hk.three
  refine ⟨rows_fit (Q := fun _ => True) (J := jgs (ctt x.C) - 1) ?_ (by omega) ?_, rows_fit (Q := fun _ => True) (J := jgs (ctt x.C) - 1) ?_ (by omega) ?_⟩
  · rw [h1]
    exact drop_rows hk.gs hj
  · rw [← ctt_len, h1, List.length_map]
    omega
  · rw [h2]
    exact drop_rows hk.cs hj
  · rw [← ctt_len, h2, List.length_map]
    omega
set_option maxHeartbeats 8000000 in
set_option maxRecDepth 20000 in
theorem sDropJudge_any (x : Mr) (j : Int) (w : World) (hr : MrIn w w.heap.size x) (hl : MrFits x) (hcap : MrCap x) :
    Calls Try.prog 30 #[x.val, .int .i64 j] w fun e w' => (∃ y : Mr, e = .returned (.tuple #[.agg #[.slice y.G.A y.G.xs.length y.G.c, .slice y.C.A y.C.xs.length y.C.c], .bool (pB (DjOk (ctt x.G) (ctt x.C) j))]) ∧ MrAns (djG (ctt x.G) (ctt x.C) j) (djC (ctt x.G) (ctt x.C) j) w w' y) ∧ Below w.heap.size w w' := by
  have HR := Lib.hid hr
  have HF := Lib.hid hl
  have HCAP := Lib.hid hcap
  have hg1 := nfit_len hl.g
  have hc1 := nfit_len hl.c
  clear hr hl hcap
  unfold Mr.val
  obtain ⟨W, hW, hB0, hX, hM, hlt⟩ : ∃ W, W = (w.alloc (.cells #[.slice x.G.A x.G.xs.length x.G.c, .slice x.C.A x.C.xs.length x.C.c] 27)).alloc (.cells #[.slice none 0 0, .slice none 0 0] 27) ∧ Below w.heap.size w W ∧ Mem2 W w.heap.size (.slice x.G.A x.G.xs.length x.G.c) (.slice x.C.A x.C.xs.length x.C.c) ∧ Mem2 W (w.heap.size + 1) (.slice none 0 0) (.slice none 0 0) ∧ w.heap.size + 1 < W.heap.size :=
    ⟨_, rfl, below_next (below_alloc _ _) (below_alloc _ _), (mem2_new w _ _ rfl _ _).below (below_alloc _ _) (by simp), mem2_new _ _ _ (by simp) _ _, by simp⟩
  have HB0 := Lib.hid hB0
  have HX := Lib.hid hX
  have HM := Lib.hid hM
  have HC := Lib.hid (mkHas_any x j W (HR.out.next hB0) HF.out)
  clear hB0 hX hM
  unfold Mr.val at HC
  obtain ⟨a0, a1, af⟩ := HX.out
  rw [hW] at a0 a1
  go_enter Try.func30, Try.ntmps30
  go_wp2_with fail
  rw [← hW]
  clear hW a0 a1 af
  by_cases h1 : MkHas (ctt x.G) (ctt x.C) j
  rotate_left
  · rw [pB_no h1] at HC
    have HNO := Lib.hid (fun q : DjOk (ctt x.G) (ctt x.C) j => h1 q.has)
    clear h1
    refine HC.out.mono ?_
    rintro e w1 ⟨rfl, hb1⟩
    have HB1 := Lib.hid (below_next HB0.out hb1)
    have hn := HM.out.below hb1 hlt
    have hn9 := (hn.set0 (.slice none 0 0)).set1 (.slice none 0 0)
    have HB9 := Lib.hid ((HB1.out.setCell (p := ⟨w.heap.size + 1, 0, none⟩) (Nat.le_succ _) (.slice none 0 0)).setCell (p := ⟨w.heap.size + 1, 1, none⟩) (Nat.le_succ _) (.slice none 0 0))
    have HN9 := Lib.hid hn9
    clear hb1 hn9
    obtain ⟨n0, n1, nf⟩ := hn
    go_wp2_with fail
    clear n0 n1 nf
    obtain ⟨m0, m1, mf⟩ := HN9.out
    refine bodyPost_ret (v := .tuple #[.agg #[.slice none 0 0, .slice none 0 0], .bool false]) (by simp [results, Try.results30, go_sem, m0, m1]) rfl ?_
    rw [pB_no HNO.out, (dj_no HNO.out).1, (dj_no HNO.out).2]
    exact ⟨⟨nilMr, rfl, mrAns_nil _ _⟩, HB9.out⟩
  rw [pB_yes h1] at HC
  have H1 := Lib.hid h1
  clear h1
  obtain ⟨m, rfl⟩ : ∃ m : Nat, j = (m : Int) := ⟨j.toNat, by have := H1.out.lo; omega⟩
  have HJ := Lib.hid (show m < jgs (ctt x.C) by have := H1.out.hi; omega)
  have HOK := Lib.hid (show MkL ((ctt x.G).map (dropJ m)) ((ctt x.C).map (dropJ m)) ↔ DjOk (ctt x.G) (ctt x.C) m from ⟨fun h => ⟨H1.out, by rw [Int.toNat_natCast]; exact h⟩, fun h => by have := h.ok; rw [Int.toNat_natCast] at this; exact this⟩)
  refine HC.out.mono ?_
  rintro e w1 ⟨rfl, hb1⟩
  have HB1 := Lib.hid (below_next HB0.out hb1)
  have HM1 := Lib.hid (HM.out.below hb1 hlt)
  have hl1 := Nat.lt_of_lt_of_le hlt hb1.size
  have HX1 := Lib.hid (HX.out.below hb1 (by omega))
  clear hb1 HC HB0 HX HM
  obtain ⟨x0, x1, xf⟩ := HX1.out
  have HCO := Lib.hid (mkWithout_any x m w1 (HR.out.next HB1.out) HF.out HCAP.out H1.out.ok HJ.out)
  go_wp2_with (first
    | (go_at_call 59; refine HCO.out.mono ?_; rintro e w5 ⟨⟨z, rfl, hz⟩, hb5⟩; have HZO := Lib.hid hz.own; have HZC := Lib.hid (And.intro hz.G hz.C); have HZF := Lib.hid (drop_fits H1.out.ok HJ.out hz.G hz.C); have HB5 := Lib.hid hb5; clear hz hb5)
    | (go_at_call 55; refine (mkIf_any z _ HZO.out.mr HZF.out).mono ?_; rintro e w6 ⟨rfl, hb6⟩; have HA6 := Lib.hid (okMr_ans (w0 := w1) (z := z) HZO.out hb6 (Nat.le_refl _) (Nat.le_refl _)); have HB6 := Lib.hid (below_next HB5.out hb6); have HN6 := Lib.hid (HM1.out.below HB6.out hl1); obtain ⟨m0, m1, mf⟩ := HN6.out; generalize okMr z = u at HA6 ⊢; clear hb6))
  have hn9 := (HN6.out.set0 (.slice u.G.A u.G.xs.length u.G.c)).set1 (.slice u.C.A u.C.xs.length u.C.c)
  have ht : Only (fun i => i = w.heap.size + 1) w6 ((w6.setCell ⟨w.heap.size + 1, 0, none⟩ (.slice u.G.A u.G.xs.length u.G.c)).setCell ⟨w.heap.size + 1, 1, none⟩ (.slice u.C.A u.C.xs.length u.C.c)) := ((Only.refl (fun i => i = w.heap.size + 1) w6).put (w.heap.size + 1) 0 rfl _).put (w.heap.size + 1) 1 rfl _
  clear m0 m1 mf
  obtain ⟨m0, m1, mf⟩ := hn9
  refine bodyPost_ret (v := .tuple #[.agg #[.slice u.G.A u.G.xs.length u.G.c, .slice u.C.A u.C.xs.length u.C.c], .bool (pB (MkL (ctt z.G) (ctt z.C)))]) (by simp [results, Try.results30, go_sem, m0, m1]) rfl ?_
  have hb9 := ht.below (B := w.heap.size) (by have := HB6.out.size; have := HB1.out.size; omega) (fun i hi => by omega)
  have hA := (HA6.out.keep ht (.inl hl1)).from HB1.out.size
  rw [HZC.out.1, HZC.out.2] at hA ⊢
  rw [pIf_iff HOK.out, pIf_iff HOK.out] at hA
  rw [pB_iff HOK.out]
  have e1 : djG (ctt x.G) (ctt x.C) (m : Int) = pIf (DjOk (ctt x.G) (ctt x.C) m) ((ctt x.G).map (dropJ m)) [] := by unfold djG; rw [Int.toNat_natCast]
  have e2 : djC (ctt x.G) (ctt x.C) (m : Int) = pIf (DjOk (ctt x.G) (ctt x.C) m) ((ctt x.C).map (dropJ m)) [] := by unfold djC; rw [Int.toNat_natCast]
  rw [e1, e2]
  exact ⟨⟨u, rfl, hA⟩, (below_next HB1.out HB6.out).trans hb9⟩
set_option maxHeartbeats 8000000 in
set_option maxRecDepth 20000 in
theorem iDropJudge_any (x : Mr) (j : Int) (w : World) (hr : MrIn w w.heap.size x) (hl : MrFits x) (hcap : MrCap x) :
    Calls Try.prog 31 #[x.val, .int .i64 j] w fun e w' => (∃ y : Mr, e = .returned (.tuple #[.agg #[.slice y.G.A y.G.xs.length y.G.c, .slice y.C.A y.C.xs.length y.C.c], .bool (pB (DjOk (ctt x.G) (ctt x.C) j))]) ∧ MrAns (djG (ctt x.G) (ctt x.C) j) (djC (ctt x.G) (ctt x.C) j) w w' y) ∧ Below w.heap.size w w' := by
  have HR := Lib.hid hr
  have HF := Lib.hid hl
  have HCAP := Lib.hid hcap
  have hg1 := nfit_len hl.g
  have hc1 := nfit_len hl.c
  clear hr hl hcap
  unfold Mr.val
  obtain ⟨W, hW, hB0, hX, hM, hlt⟩ : ∃ W, W = (w.alloc (.cells #[.slice x.G.A x.G.xs.length x.G.c, .slice x.C.A x.C.xs.length x.C.c] 27)).alloc (.cells #[.slice none 0 0, .slice none 0 0] 27) ∧ Below w.heap.size w W ∧ Mem2 W w.heap.size (.slice x.G.A x.G.xs.length x.G.c) (.slice x.C.A x.C.xs.length x.C.c) ∧ Mem2 W (w.heap.size + 1) (.slice none 0 0) (.slice none 0 0) ∧ w.heap.size + 1 < W.heap.size :=
    ⟨_, rfl, below_next (below_alloc _ _) (below_alloc _ _), (mem2_new w _ _ rfl _ _).below (below_alloc _ _) (by simp), mem2_new _ _ _ (by simp) _ _, by simp⟩
  have HB0 := Lib.hid hB0
  have HX := Lib.hid hX
  have HM := Lib.hid hM
  have HC := Lib.hid (hasJudge_any x j W (HR.out.next hB0) HF.out)
  clear hB0 hX hM
  unfold Mr.val at HC
  obtain ⟨a0, a1, af⟩ := HX.out
  rw [hW] at a0 a1
  go_enter Try.func31, Try.ntmps31
  go_wp2_with fail
  rw [← hW]
  clear hW a0 a1 af
  by_cases h1 : MkHas (ctt x.G) (ctt x.C) j
  rotate_left
  · rw [pB_no h1] at HC
    have HNO := Lib.hid (fun q : DjOk (ctt x.G) (ctt x.C) j => h1 q.has)
    clear h1
    refine HC.out.mono ?_
    rintro e w1 ⟨rfl, hb1⟩
    have HB1 := Lib.hid (below_next HB0.out hb1)
    have hn := HM.out.below hb1 hlt
    have hn9 := (hn.set0 (.slice none 0 0)).set1 (.slice none 0 0)
    have HB9 := Lib.hid ((HB1.out.setCell (p := ⟨w.heap.size + 1, 0, none⟩) (Nat.le_succ _) (.slice none 0 0)).setCell (p := ⟨w.heap.size + 1, 1, none⟩) (Nat.le_succ _) (.slice none 0 0))
    have HN9 := Lib.hid hn9
    clear hb1 hn9
    obtain ⟨n0, n1, nf⟩ := hn
    go_wp2_with fail
    clear n0 n1 nf
    obtain ⟨m0, m1, mf⟩ := HN9.out
    refine bodyPost_ret (v := .tuple #[.agg #[.slice none 0 0, .slice none 0 0], .bool false]) (by simp [results, Try.results31, go_sem, m0, m1]) rfl ?_
    rw [pB_no HNO.out, (dj_no HNO.out).1, (dj_no HNO.out).2]
    exact ⟨⟨nilMr, rfl, mrAns_nil _ _⟩, HB9.out⟩
  rw [pB_yes h1] at HC
  have H1 := Lib.hid h1
  clear h1
  obtain ⟨m, rfl⟩ : ∃ m : Nat, j = (m : Int) := ⟨j.toNat, by have := H1.out.lo; omega⟩
  have HJ := Lib.hid (show m < jgs (ctt x.C) by have := H1.out.hi; omega)
  have HOK := Lib.hid (show MkL ((ctt x.G).map (dropJ m)) ((ctt x.C).map (dropJ m)) ↔ DjOk (ctt x.G) (ctt x.C) m from ⟨fun h => ⟨H1.out, by rw [Int.toNat_natCast]; exact h⟩, fun h => by have := h.ok; rw [Int.toNat_natCast] at this; exact this⟩)
  refine HC.out.mono ?_
  rintro e w1 ⟨rfl, hb1⟩
  have HB1 := Lib.hid (below_next HB0.out hb1)
  have HM1 := Lib.hid (HM.out.below hb1 hlt)
  have hl1 := Nat.lt_of_lt_of_le hlt hb1.size
  have HX1 := Lib.hid (HX.out.below hb1 (by omega))
  clear hb1 HC HB0 HX HM
  obtain ⟨x0, x1, xf⟩ := HX1.out
  have HCE := Lib.hid (fun w' (hb : Below w1.heap.size w1 w') => show w'.cell? ⟨w.heap.size, 0, none⟩ = some (.slice x.G.A x.G.xs.length x.G.c) ∧ w'.cell? ⟨w.heap.size, 1, none⟩ = some (.slice x.C.A x.C.xs.length x.C.c) from ⟨(HX1.out.below hb (by omega)).c0, (HX1.out.below hb (by omega)).c1⟩)
  have HBd := Lib.hid (below_drew w1)
  have HJG := Lib.hid (show (∀ i, i < x.G.xs.length → m < (it x.G.xs i).xs.length ∧ (it x.G.xs i).xs.length ≤ 9) ∧ (∀ i, i < x.C.xs.length → m < (it x.C.xs i).xs.length ∧ (it x.C.xs i).xs.length ≤ 9) from by
    have h9 := H1.out.ok.j9
    have hj := HJ.out
    refine ⟨fun i hi => ?_, fun i hi => ?_⟩
    · have h := (H1.out.ok.gs i (by rw [ctt_len]; exact hi)).len
      rw [ctt_it] at h
      omega
    · have h := (H1.out.ok.cs i (by rw [ctt_len]; exact hi)).len
      rw [ctt_it] at h
      omega)
  clear x0 x1 xf
  go_upto_region 3 with fail
  refine wp_region_held_drew (S := (fun w' => w'.cell? ⟨w.heap.size, 0, none⟩ = some (.slice x.G.A x.G.xs.length x.G.c) ∧ w'.cell? ⟨w.heap.size, 1, none⟩ = some (.slice x.C.A x.C.xs.length x.C.c))) (by kernel_rfl) ?_ (fun hHeld0 => ?_)
  · ((try dsimp only); first | (with_reducible exact HCE.out _ HBd.out) | (with_reducible exact HCE.out _ HBa.out) | (with_reducible exact HCE.out _ HB5.out) | (with_reducible exact HCE.out _ HB6.out) | fail)
  refine wpAnyH_take (i := 0) (oi := _) (v := ?_) rfl (by kernel_rfl) (by kernel_rfl) (by kernel_rfl) (fun _ _ _ h => h) (Or.inl ⟨by rfl, ?_⟩) (by assumption) ?_
  rotate_left
  · (intro w hSw; (try dsimp only at hSw); go_simp; try with_reducible rfl)
  try simp only [Act.put, List.setIfInBounds_toArray, List.set_cons_zero, List.set_cons_succ, List.getElem_toArray, List.getElem_cons_zero]
  refine wpAnyH_take (i := 1) (oi := _) (v := ?_) rfl (by kernel_rfl) (by kernel_rfl) (by kernel_rfl) (fun _ _ _ h => h) (Or.inl ⟨by rfl, ?_⟩) (by assumption) ?_
  rotate_left
  · (intro w hSw; (try dsimp only at hSw); go_simp; try with_reducible rfl)
  try simp only [Act.put, List.setIfInBounds_toArray, List.set_cons_zero, List.set_cons_succ, List.getElem_toArray, List.getElem_cons_zero, List.getElem_cons_succ]
  refine wpAnyH_take (i := 2) (oi := _) (v := ?_) rfl (by kernel_rfl) (by kernel_rfl) (by kernel_rfl) (fun _ _ _ h => h) (Or.inl ⟨by rfl, ?_⟩) (by assumption) ?_
  rotate_left
  · (intro w hSw; (try dsimp only at hSw); go_simp; try with_reducible rfl)
  try simp only [Act.put, List.setIfInBounds_toArray, List.set_cons_zero, List.set_cons_succ, List.getElem_toArray, List.getElem_cons_zero, List.getElem_cons_succ]
  refine wpAnyH_take (i := 4) (oi := _) (v := ?_) rfl (by kernel_rfl) (by kernel_rfl) (by kernel_rfl) (fun _ _ _ h => h) (Or.inl ⟨by rfl, ?_⟩) (by assumption) ?_
  rotate_left
  · (intro w hSw; (try dsimp only at hSw); go_simp; try with_reducible rfl)
  try simp only [Act.put, List.setIfInBounds_toArray, List.set_cons_zero, List.set_cons_succ, List.getElem_toArray, List.getElem_cons_zero, List.getElem_cons_succ]
  refine wpAnyH_take (i := 5) (oi := _) (v := ?_) rfl (by kernel_rfl) (by kernel_rfl) (by kernel_rfl) (fun _ _ _ h => h) (Or.inl ⟨by rfl, ?_⟩) (by assumption) ?_
  rotate_left
  · (intro w hSw; (try dsimp only at hSw); go_simp; try with_reducible rfl)
  try simp only [Act.put, List.setIfInBounds_toArray, List.set_cons_zero, List.set_cons_succ, List.getElem_toArray, List.getElem_cons_zero, List.getElem_cons_succ]
  refine wpAnyH_take (i := 6) (oi := _) (v := ?_) rfl (by kernel_rfl) (by kernel_rfl) (by kernel_rfl) (fun _ _ _ h => h) (Or.inl ⟨by rfl, ?_⟩) (by assumption) ?_
  rotate_left
  · (intro w hSw; (try dsimp only at hSw); go_simp; try with_reducible rfl)
  try simp only [Act.put, List.setIfInBounds_toArray, List.set_cons_zero, List.set_cons_succ, List.getElem_toArray, List.getElem_cons_zero, List.getElem_cons_succ]
  refine wpAnyH_ready (rs := [3]) (by kernel_rfl) (by simp) ?_
  refine AllReadyH.cons rfl (fun K hK => ?_) ?_
  rotate_left
  · exact AllReadyH.nil
  go_simp
  go_wp2_with (go_at_call 60; refine (withoutColumn_any x.G m _ (Nst.next HR.out.g (below_next HB1.out HBd.out)) HF.out.g HCAP.out.g HJG.out.1).mono ?_; rintro e wa ⟨⟨yG, rfl, hG1, hG2⟩, hb⟩; have HBa := Lib.hid (below_next HBd.out hb); have HG1 := Lib.hid hG1; have HG2 := Lib.hid hG2; clear hG1 hG2 hb)
  refine hK.out _ _ ?_ (fun hHeld1 => ?_)
  · ((try dsimp only); first | (with_reducible exact HCE.out _ HBd.out) | (with_reducible exact HCE.out _ HBa.out) | (with_reducible exact HCE.out _ HB5.out) | (with_reducible exact HCE.out _ HB6.out) | fail)
  clear hK K
  refine wpAnyH_ready (rs := [7]) (by kernel_rfl) (by simp) ?_
  refine AllReadyH.cons rfl (fun K hK => ?_) ?_
  rotate_left
  · exact AllReadyH.nil
  go_simp
  go_wp2_with (go_at_call 60; refine (withoutColumn_any x.C m _ (Nst.next HR.out.c (below_next HB1.out HBa.out)) HF.out.c HCAP.out.c HJG.out.2).mono ?_; rintro e w5 ⟨⟨yC, rfl, hC1, hC2⟩, hb⟩; have HB5 := Lib.hid (below_next HBa.out hb); obtain ⟨z, hz⟩ : ∃ z : Mr, z = ⟨yG, yC⟩ := ⟨_, rfl⟩; have HZC := Lib.hid (show ctt z.G = (ctt x.G).map (dropJ m) ∧ ctt z.C = (ctt x.C).map (dropJ m) from by rw [hz]; exact ⟨HG1.out, hC1⟩); have HZF := Lib.hid (drop_fits H1.out.ok HJ.out HZC.out.1 HZC.out.2); have HZO := Lib.hid (show MrOwn (iv w1.heap.size w5.heap.size) w5 z from by rw [hz]; exact ⟨_, _, Nst.keepB HG2.out hb, hC2, fun i hi => ⟨Nat.le_trans HBd.out.size hi.1, Nat.lt_of_lt_of_le hi.2 hb.size⟩, fun i hi => ⟨Nat.le_trans HBa.out.size hi.1, hi.2⟩, fun i h h' => absurd h.2 (Nat.not_lt_of_le h'.1)⟩); obtain ⟨rfl, rfl⟩ : yG = z.G ∧ yC = z.C := (by rw [hz]; exact ⟨rfl, rfl⟩); clear hC1 hC2 hb hz HG1 HG2)
  refine hK.out _ _ ?_ (fun hHeld2 => ?_)
  · ((try dsimp only); first | (with_reducible exact HCE.out _ HBd.out) | (with_reducible exact HCE.out _ HBa.out) | (with_reducible exact HCE.out _ HB5.out) | (with_reducible exact HCE.out _ HB6.out) | fail)
  clear hK K
  refine wpAnyH_take (i := 8) (oi := _) (v := ?_) rfl (by kernel_rfl) (by kernel_rfl) (by kernel_rfl) (fun _ _ _ h => h) (Or.inl ⟨by rfl, ?_⟩) (by assumption) ?_
  rotate_left
  · (intro w hSw; (try dsimp only at hSw); go_simp; try with_reducible rfl)
  try simp only [Act.put, List.setIfInBounds_toArray, List.set_cons_zero, List.set_cons_succ, List.getElem_toArray, List.getElem_cons_zero, List.getElem_cons_succ]
  refine wpAnyH_ready (rs := [9]) (by kernel_rfl) (by simp) ?_
  refine AllReadyH.cons rfl (fun K hK => ?_) ?_
  rotate_left
  · exact AllReadyH.nil
  go_simp
  go_wp2_with (go_at_call 57; refine (marksIfValid_any z _ HZO.out.mr HZF.out).mono ?_; rintro e w6 ⟨rfl, hb6⟩; have HA6 := Lib.hid (okMr_ans (w0 := w1) (z := z) HZO.out hb6 (Nat.le_refl _) (Nat.le_refl _)); have HB6 := Lib.hid (below_next HB5.out hb6); have HN6 := Lib.hid (HM1.out.below HB6.out hl1); obtain ⟨m0, m1, mf⟩ := HN6.out; generalize okMr z = u at HA6 ⊢; clear hb6)
  refine hK.out _ _ ?_ (fun hHeld3 => ?_)
  · ((try dsimp only); first | (with_reducible exact HCE.out _ HBd.out) | (with_reducible exact HCE.out _ HBa.out) | (with_reducible exact HCE.out _ HB5.out) | (with_reducible exact HCE.out _ HB6.out) | fail)
  clear hK K
  refine wpAnyH_take (i := 10) (oi := _) (v := ?_) rfl (by kernel_rfl) (by kernel_rfl) (by kernel_rfl) (fun _ _ _ h => h) (Or.inl ⟨by rfl, ?_⟩) (by assumption) ?_
  rotate_left
  · (intro w hSw; (try dsimp only at hSw); go_simp; try with_reducible rfl)
  try simp only [Act.put, List.setIfInBounds_toArray, List.set_cons_zero, List.set_cons_succ, List.getElem_toArray, List.getElem_cons_zero, List.getElem_cons_succ]
  refine wpAnyH_take (i := 11) (oi := _) (v := ?_) rfl (by kernel_rfl) (by kernel_rfl) (by kernel_rfl) (fun _ _ _ h => h) (Or.inl ⟨by rfl, ?_⟩) (by assumption) ?_
  rotate_left
  · (intro w hSw; (try dsimp only at hSw); go_simp; try with_reducible rfl)
  try simp only [Act.put, List.setIfInBounds_toArray, List.set_cons_zero, List.set_cons_succ, List.getElem_toArray, List.getElem_cons_zero, List.getElem_cons_succ]
  have hk12 : ∀ w', Only (fun i => i = w.heap.size + 1) w6 w' → w'.cell? ⟨w.heap.size, 0, none⟩ = some (.slice x.G.A x.G.xs.length x.G.c) ∧ w'.cell? ⟨w.heap.size, 1, none⟩ = some (.slice x.C.A x.C.xs.length x.C.c) := fun w' h => by
    have h1 := HCE.out _ HB6.out
    have h2 := h.block w.heap.size (by have := HB6.out.size; omega) (by omega)
    exact ⟨(World.cell?_of_block (w := w6) (a := ⟨w.heap.size, 0, none⟩) h2).trans h1.1, (World.cell?_of_block (w := w6) (a := ⟨w.heap.size, 1, none⟩) h2).trans h1.2⟩
  refine wpAnyH_ready (rs := [12]) (by kernel_rfl) (by simp) ?_
  refine AllReadyH.cons rfl (fun K hK => ?_) ?_
  rotate_left
  · exact AllReadyH.nil
  go_simp
  refine hK.out _ _ ?_ (fun hHeld4 => ?_)
  · ((try dsimp only); exact hk12 _ (((Only.refl (fun i => i = w.heap.size + 1) w6).put (w.heap.size + 1) 0 rfl _).put (w.heap.size + 1) 1 rfl _))
  clear hK K
  refine wpAnyH_take (i := 13) (oi := _) (v := ?_) rfl (by kernel_rfl) (by kernel_rfl) (by kernel_rfl) (fun _ _ _ h => h) (Or.inl ⟨by rfl, ?_⟩) (by assumption) ?_
  rotate_left
  · (intro w hSw; (try dsimp only at hSw); go_simp; try with_reducible rfl)
  try simp only [Act.put, List.setIfInBounds_toArray, List.set_cons_zero, List.set_cons_succ, List.getElem_toArray, List.getElem_cons_zero, List.getElem_cons_succ]
  refine wpAnyH_done (by kernel_rfl) ?_ _
  go_wp2_with fail
  have hn9 := (HN6.out.set0 (.slice u.G.A u.G.xs.length u.G.c)).set1 (.slice u.C.A u.C.xs.length u.C.c)
  have ht : Only (fun i => i = w.heap.size + 1) w6 ((w6.setCell ⟨w.heap.size + 1, 0, none⟩ (.slice u.G.A u.G.xs.length u.G.c)).setCell ⟨w.heap.size + 1, 1, none⟩ (.slice u.C.A u.C.xs.length u.C.c)) := ((Only.refl (fun i => i = w.heap.size + 1) w6).put (w.heap.size + 1) 0 rfl _).put (w.heap.size + 1) 1 rfl _
  clear m0 m1 mf
  obtain ⟨m0, m1, mf⟩ := hn9
  refine bodyPost_ret (v := .tuple #[.agg #[.slice u.G.A u.G.xs.length u.G.c, .slice u.C.A u.C.xs.length u.C.c], .bool (pB (MkL (ctt z.G) (ctt z.C)))]) (by simp [results, Try.results31, go_sem, m0, m1]) rfl ?_
  have hb9 := ht.below (B := w.heap.size) (by have := HB6.out.size; have := HB1.out.size; omega) (fun i hi => by omega)
  have hA := (HA6.out.keep ht (.inl hl1)).from HB1.out.size
  rw [HZC.out.1, HZC.out.2] at hA ⊢
  rw [pIf_iff HOK.out, pIf_iff HOK.out] at hA
  rw [pB_iff HOK.out]
  have e1 : djG (ctt x.G) (ctt x.C) (m : Int) = pIf (DjOk (ctt x.G) (ctt x.C) m) ((ctt x.G).map (dropJ m)) [] := by unfold djG; rw [Int.toNat_natCast]
  have e2 : djC (ctt x.G) (ctt x.C) (m : Int) = pIf (DjOk (ctt x.G) (ctt x.C) m) ((ctt x.C).map (dropJ m)) [] := by unfold djC; rw [Int.toNat_natCast]
  rw [e1, e2]
  exact ⟨⟨u, rfl, hA⟩, (below_next HB1.out HB6.out).trans hb9⟩
end Go.Proofs.Ytfeffkjmjkddnaa
