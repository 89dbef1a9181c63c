/- SwapJudges, of both sides. -/
import Derived.Test.YtfeffkjmjkddnaaMrW
import Derived.Deep.Cut
namespace Go.Proofs.Ytfeffkjmjkddnaa
open Go.ChangeShapes Go.WideShapes Go.ChangeAt Go.RowKit Go.Lib Go.Proofs Go.PlainAid
set_option linter.unusedVariables false

set_option maxHeartbeats 8000000 in
set_option maxRecDepth 20000 in
theorem iSwapJudges_any (x : Mr) (a b : Int) (w : World) (hr : MrIn w w.heap.size x) (hl : MrFits x) :
    Calls Try.prog 36 #[x.val, .int .i64 a, .int .i64 b] w fun e w' => (∃ y : Mr, e = .returned (.tuple #[.agg #[.slice y.G.A y.G.xs.length y.G.c, .slice y.C.A y.C.xs.length y.C.c], .bool (pB (SwOk (ctt x.G) (ctt x.C) a b))]) ∧ MrAns (swG (ctt x.G) (ctt x.C) a b) (swC (ctt x.G) (ctt x.C) a b) w w' y) ∧ Below w.heap.size w w' := by
  have HR := Lib.hid hr
  have HF := Lib.hid hl
  have hg1 := nfit_len hl.g
  have hc1 := nfit_len hl.c
  clear hr hl
  unfold Mr.val
  obtain ⟨W, hW, hB0, hX, hM, hlt⟩ : ∃ W, W = (w.alloc (.cells #[.slice x.G.A x.G.xs.length x.G.c, .slice x.C.A x.C.xs.length x.C.c] 27)).alloc (.cells #[.slice none 0 0, .slice none 0 0] 27) ∧ Below w.heap.size w W ∧ Mem2 W w.heap.size (.slice x.G.A x.G.xs.length x.G.c) (.slice x.C.A x.C.xs.length x.C.c) ∧ Mem2 W (w.heap.size + 1) (.slice none 0 0) (.slice none 0 0) ∧ w.heap.size + 1 < W.heap.size :=
    ⟨_, rfl, below_next (below_alloc _ _) (below_alloc _ _), (mem2_new w _ _ rfl _ _).below (below_alloc _ _) (by simp), mem2_new _ _ _ (by simp) _ _, by simp⟩
  have HB0 := Lib.hid hB0
  have HX := Lib.hid hX
  have HM := Lib.hid hM
  have HCa := Lib.hid (hasJudge_any x a W (HR.out.next hB0) HF.out)
  have HCb := Lib.hid (fun w' hr' => hasJudge_any x b w' hr' HF.out)
  clear hB0 hX hM
  unfold Mr.val at HCa HCb
  obtain ⟨a0, a1, af⟩ := HX.out
  rw [hW] at a0 a1
  go_enter Try.func36, Try.ntmps36
  go_wp2_with fail
  rw [← hW]
  clear hW a0 a1 af
  by_cases h1 : MkHas (ctt x.G) (ctt x.C) a
  rotate_left
  · rw [pB_no h1] at HCa
    have HNO := Lib.hid (fun q : SwOk (ctt x.G) (ctt x.C) a b => h1 q.a)
    clear h1
    refine HCa.out.mono ?_
    rintro e w1 ⟨rfl, hb1⟩
    have HB1 := Lib.hid (below_next HB0.out hb1)
    have hn := HM.out.below hb1 hlt
    have HN9 := Lib.hid ((hn.set0 (.slice none 0 0)).set1 (.slice none 0 0))
    have HB9 := Lib.hid ((HB1.out.setCell (p := ⟨w.heap.size + 1, 0, none⟩) (Nat.le_succ _) (.slice none 0 0)).setCell (p := ⟨w.heap.size + 1, 1, none⟩) (Nat.le_succ _) (.slice none 0 0))
    clear hb1
    obtain ⟨n0, n1, nf⟩ := hn
    go_wp2_with fail
    clear n0 n1 nf
    obtain ⟨m0, m1, mf⟩ := HN9.out
    refine bodyPost_ret (v := .tuple #[.agg #[.slice none 0 0, .slice none 0 0], .bool false]) (by simp [results, Try.results36, go_sem, m0, m1]) rfl ?_
    rw [pB_no HNO.out, (sw_no HNO.out).1, (sw_no HNO.out).2]
    exact ⟨⟨nilMr, rfl, mrAns_nil _ _⟩, HB9.out⟩
  rw [pB_yes h1] at HCa
  have H1 := Lib.hid h1
  clear h1
  refine HCa.out.mono ?_
  rintro e w1 ⟨rfl, hb1⟩
  have HB1 := Lib.hid (below_next HB0.out hb1)
  have HM1 := Lib.hid (HM.out.below hb1 hlt)
  have hl1 := Nat.lt_of_lt_of_le hlt hb1.size
  have HX1 := Lib.hid (HX.out.below hb1 (by omega))
  have HCb1 := Lib.hid (HCb.out w1 (HR.out.next HB1.out))
  clear hb1 HCa HCb HB0 HX HM hlt
  obtain ⟨x0, x1, xf⟩ := HX1.out
  by_cases h1 : MkHas (ctt x.G) (ctt x.C) b
  rotate_left
  · rw [pB_no h1] at HCb1
    have HNO := Lib.hid (fun q : SwOk (ctt x.G) (ctt x.C) a b => h1 q.b)
    clear h1
    go_wp2_with (go_at_call 50; refine HCb1.out.mono ?_; rintro e w2 ⟨rfl, hb2⟩; have HB2 := Lib.hid (below_next HB1.out hb2); have hn := HM1.out.below hb2 hl1; have HN9 := Lib.hid ((hn.set0 (.slice none 0 0)).set1 (.slice none 0 0)); have HB9 := Lib.hid ((HB2.out.setCell (p := ⟨w.heap.size + 1, 0, none⟩) (Nat.le_succ _) (.slice none 0 0)).setCell (p := ⟨w.heap.size + 1, 1, none⟩) (Nat.le_succ _) (.slice none 0 0)); obtain ⟨n0, n1, nf⟩ := hn; clear hb2)
    clear n0 n1 nf
    obtain ⟨m0, m1, mf⟩ := HN9.out
    refine bodyPost_ret (v := .tuple #[.agg #[.slice none 0 0, .slice none 0 0], .bool false]) (by simp [results, Try.results36, go_sem, m0, m1]) rfl ?_
    rw [pB_no HNO.out, (sw_no HNO.out).1, (sw_no HNO.out).2]
    exact ⟨⟨nilMr, rfl, mrAns_nil _ _⟩, HB9.out⟩
  rw [pB_yes h1] at HCb1
  have H2 := Lib.hid h1
  clear h1
  obtain ⟨p, rfl⟩ : ∃ m : Nat, a = (m : Int) := ⟨a.toNat, by have := H1.out.lo; omega⟩
  obtain ⟨q, rfl⟩ : ∃ m : Nat, b = (m : Int) := ⟨b.toNat, by have := H2.out.lo; omega⟩
  have HPQ := Lib.hid (show p < jgs (ctt x.C) ∧ q < jgs (ctt x.C) by have := H1.out.hi; have := H2.out.hi; omega)
  have HOK := Lib.hid (show SwOk (ctt x.G) (ctt x.C) p q from ⟨H1.out, H2.out⟩)
  have HCO := Lib.hid (fun w' hr' => copyOfMarks_any x w' hr' HF.out H1.out.ok)
  unfold Mr.val at HCO
  go_upto_region 4 with (first
    | (go_at_call 50; refine HCb1.out.mono ?_; rintro e w2 ⟨rfl, hb2⟩; have HB2 := Lib.hid (below_next HB1.out hb2); have HM2 := Lib.hid (HM1.out.below hb2 hl1); have hl2 := Nat.lt_of_lt_of_le hl1 hb2.size; have HX2 := Lib.hid (HX1.out.below hb2 (by omega)); clear x0 x1 xf hb2; obtain ⟨x0, x1, xf⟩ := HX2.out)
    | (go_at_call 56; refine (HCO.out w2 (HR.out.next HB2.out)).mono ?_; rintro e w3 ⟨⟨y, rfl, hs, hy⟩, hb3⟩; have HS := Lib.hid hs; have HY := Lib.hid hy; have HB3 := Lib.hid hb3; clear hs hy hb3))
  have HB4 := Lib.hid (below_next HB3.out (below_alloc w3 (.cells #[.slice y.G.A y.G.xs.length y.G.c, .slice y.C.A y.C.xs.length y.C.c] 27)))
  have HX4 := Lib.hid (mrBox_new w3 27 y)
  have HY4 := Lib.hid (HY.out.next (below_alloc w3 (.cells #[.slice y.G.A y.G.xs.length y.G.c, .slice y.C.A y.C.xs.length y.C.c] 27)))
  generalize World.alloc w3 _ = w4 at HB4 HX4 HY4 ⊢
  have HM4 := Lib.hid (HM2.out.below HB4.out hl2)
  have HLen := Lib.hid (show (∀ i, i < y.G.xs.length → (it y.G.xs i).xs.length = jgs (ctt x.C)) ∧ (∀ i, i < y.C.xs.length → (it y.C.xs i).xs.length = jgs (ctt x.C)) ∧ y.G.xs.length ≤ 14 ∧ y.C.xs.length = 3 from by
    have hg := HS.out.cg
    have hc := HS.out.cc
    refine ⟨fun i hi => ?_, fun i hi => ?_, ?_, ?_⟩
    · rw [← ctt_it, hg]
      exact (H1.out.ok.gs i (by rw [← hg, ctt_len]; exact hi)).len
    · rw [← ctt_it, hc]
      exact (H1.out.ok.cs i (by rw [← hc, ctt_len]; exact hi)).len
    · rw [← ctt_len, hg]
      exact H1.out.ok.few
    · rw [← ctt_len, hc]
      exact H1.out.ok.three)
  obtain ⟨U1, U2, hu⟩ := HY4.out
  have HU := Lib.hid hu
  have HU1 := Lib.hid (show Nst.Own U1 w4 (swpQ y.G p q 0) by rw [swpQ_0]; exact hu.g)
  have HU2 := Lib.hid (show Nst.Own U2 w4 (swpQ y.C p q 0) by rw [swpQ_0]; exact hu.c)
  have hq1 : (0 : Int) ≤ (p : Int) := by omega
  have hq2 : (0 : Int) ≤ (q : Int) := by omega
  clear hu HY4 x0 x1 xf HCO HCb1 HX1
  obtain ⟨b0, b1, bf⟩ := HX4.out.mem
  have HCC := Lib.hid (concatRw_any (some ⟨w4.heap.size, 0, none⟩) 2 [y.G, y.C] (w4.alloc (.cells #[.slice y.G.A y.G.xs.length y.G.c, .slice y.C.A y.C.xs.length y.C.c] 22)) (by
    have h := two_lst w4 y.G y.C 22
    rw [show w4.heap.size + 1 = (w4.alloc (.cells #[.slice y.G.A y.G.xs.length y.G.c, .slice y.C.A y.C.xs.length y.C.c] 22)).heap.size by simp] at h
    exact h) (fun i hi => by
    have hi' : i < 2 := hi
    have hb := below_alloc w4 (.cells #[.slice y.G.A y.G.xs.length y.G.c, .slice y.C.A y.C.xs.length y.C.c] 22)
    have hg := Nst.own_in (Nst.keepB HU.out.g hb)
    have hc := Nst.own_in (Nst.keepB HU.out.c hb)
    rcases (show i = 0 ∨ i = 1 by omega) with rfl | rfl
    · exact (show NIn _ _ _ _ from hg).out
    · exact (show NIn _ _ _ _ from hc).out) (by show 2 ≤ 3; omega) (by show 0 < 2; omega) (by
    show (catR [y.G, y.C] 2).length ≤ 1048577
    rw [cat_two, List.length_append]
    have := HLen.out.2.2
    omega))
  have hy14 := HLen.out.2.2.1
  have hy3 : y.C.xs.length ≤ 3 := by have := HLen.out.2.2.2; omega
  obtain ⟨L, hL⟩ : ∃ L : List (Rw Int), L = y.G.xs ++ y.C.xs := ⟨_, rfl⟩
  have HLL := Lib.hid hL
  have hLn : L.length ≤ 17 := by rw [hL, List.length_append]; omega
  have HLs := Lib.hid (show L.length = y.G.xs.length + y.C.xs.length by rw [hL, List.length_append])
  have hcat : catR [y.G, y.C] [y.G, y.C].length = L := by rw [hL]; exact cat_two _ _
  rw [hcat] at HCC
  clear hcat hL
  go_wp2_with (go_at_call 62; refine HCC.out.mono ?_; rintro e w5 ⟨⟨R, d, rfl, hd, hro⟩, hb5⟩; have HBW := Lib.hid (below_next (below_alloc w4 _) hb5); have HRO := Lib.hid (show Lst w5 w5.heap.size R L from hro.lst); have HRB := Lib.hid (show ∀ g o, R = some ⟨g, o, none⟩ → 0 < L.length → w4.heap.size < g from fun g o e hp => by obtain ⟨g', o', e', h1, _⟩ := hro hp; rw [e] at e'; injection e' with e'; injection e' with e1 e2; subst e1; have := h1.1; simp at this; omega); clear hb5 hro hd)
  clear b0 b1 bf HCC
  have HV1 := Lib.hid (Nst.keepB HU1.out HBW.out)
  have HV2 := Lib.hid (Nst.keepB HU2.out HBW.out)
  go_loopw [31] (fun i wr => ∃ t : Nat, t ≤ L.length ∧ i = .int .i64 t ∧ Hid (Nst.Own U1 wr (swpQ y.G p q t)) ∧ Hid (Nst.Own U2 wr (swpQ y.C p q (t - y.G.xs.length))) ∧ Hid (Only (iv w2.heap.size w3.heap.size) w5 wr)) (fun i _ => L.length - (intOf i).toNat)
  case atStart => exact ⟨0, Nat.zero_le _, rfl, HV1, by rw [Nat.zero_sub]; exact HV2, Lib.hid (Only.refl _ _)⟩
  case round =>
    obtain ⟨t, ht, rfl, HA1, HA2, HON⟩ := hrel
    by_cases hlt : t < L.length
    · obtain ⟨bR, oR, hR, hRl, hRc⟩ := HRO.out.rw (by omega)
      have hRb := HRB.out bR oR hR (by omega)
      have hck : wr.cell? ⟨bR, oR + t, none⟩ = some (.slice (it L t).A (it L t).xs.length (it L t).c) := (World.cell?_of_block (w := w5) (a := ⟨bR, oR + t, none⟩) (HON.out.block bR hRl (fun hi => by have := hi.2; have := HX4.out.lt; omega))).trans (hRc t hlt)
      obtain ⟨g, o, row, hrow, hrl, hAA, ca, fa, cb, cb2, fb2, hon, hmem, hn1, hn2⟩ : ∃ (g o : Nat) (row : List Int), row = (it L t).xs ∧ row.length = jgs (ctt x.C) ∧ (it L t).A = some ⟨g, o, none⟩ ∧ wr.cell? ⟨g, o + p, none⟩ = some (.int .i64 (it row p)) ∧ wr.frozen? ⟨g, o + p, none⟩ = false ∧ wr.cell? ⟨g, o + q, none⟩ = some (.int .i64 (it row q)) ∧ (wr.setCell ⟨g, o + p, none⟩ (.int .i64 (it row q))).cell? ⟨g, o + q, none⟩ = some (.int .i64 (it (row.set p (it row q)) q)) ∧ (wr.setCell ⟨g, o + p, none⟩ (.int .i64 (it row q))).frozen? ⟨g, o + q, none⟩ = false ∧ Only (fun i => i = g) wr ((wr.setCell ⟨g, o + p, none⟩ (.int .i64 (it row q))).setCell ⟨g, o + q, none⟩ (.int .i64 (it row p))) ∧ iv w2.heap.size w3.heap.size g ∧ Nst.Own U1 ((wr.setCell ⟨g, o + p, none⟩ (.int .i64 (it row q))).setCell ⟨g, o + q, none⟩ (.int .i64 (it row p))) (swpQ y.G p q (t + 1)) ∧ Nst.Own U2 ((wr.setCell ⟨g, o + p, none⟩ (.int .i64 (it row q))).setCell ⟨g, o + q, none⟩ (.int .i64 (it row p))) (swpQ y.C p q (t + 1 - y.G.xs.length)) := by
        rcases Nat.lt_or_ge t y.G.xs.length with h | h
        · have hit : it L t = it y.G.xs t := by rw [HLL.out]; exact it_left _ _ _ h
          have hlen := HLen.out.1 t h
          obtain ⟨g, o, hsw⟩ := own_swap HA1.out h (by have := HPQ.out; omega) (by have := HPQ.out; omega)
          rw [hit]
          refine ⟨g, o, _, rfl, hlen, hsw.A, hsw.ca, hsw.fa, hsw.cb, hsw.cb2, hsw.fb2, hsw.only, HU.out.s1 g hsw.mem, hsw.own, ?_⟩
          have h2 := HA2.out
          rw [show t - y.G.xs.length = 0 by omega] at h2
          rw [show t + 1 - y.G.xs.length = 0 by omega]
          exact Nst.own_keep h2 hsw.only (fun i hi e => by subst e; exact HU.out.d12 i hsw.mem hi)
        · have hls := HLs.out
          have hit : it L t = it y.C.xs (t - y.G.xs.length) := by rw [HLL.out]; exact it_right _ _ _ h
          have hk : t - y.G.xs.length < y.C.xs.length := by omega
          have hlen := HLen.out.2.1 _ hk
          obtain ⟨g, o, hsw⟩ := own_swap HA2.out hk (by have := HPQ.out; omega) (by have := HPQ.out; omega)
          rw [hit]
          refine ⟨g, o, _, rfl, hlen, hsw.A, hsw.ca, hsw.fa, hsw.cb, hsw.cb2, hsw.fb2, hsw.only, HU.out.s2 g hsw.mem, ?_, ?_⟩
          · rw [swpQ_more y.G p q (k := t + 1) (m := t) (by omega) h]
            exact Nst.own_keep HA1.out hsw.only (fun i hi e => by subst e; exact HU.out.d12 i hi hsw.mem)
          · rw [show t + 1 - y.G.xs.length = t - y.G.xs.length + 1 by omega]
            exact hsw.own
      have HN := Lib.hid (And.intro hon (And.intro hmem (And.intro hn1 hn2)))
      have hpr : (p : Int) < (row.length : Int) := by have := HPQ.out; omega
      have hqr : (q : Int) < (row.length : Int) := by have := HPQ.out; omega
      have hr9 : row.length ≤ 9 := by have := H1.out.ok.j9; omega
      rw [← hrow, hAA] at hck
      have HCAB := Lib.hid (show wr.drew.cell? ⟨g, o + p, none⟩ = some (.int .i64 (it row p)) ∧ wr.drew.cell? ⟨g, o + q, none⟩ = some (.int .i64 (it row q)) from ⟨ca, cb⟩)
      have hfa : wr.drew.frozen? ⟨g, o + p, none⟩ = false := fa
      have hcb2 : ((wr.setCell ⟨g, o + p, none⟩ (.int .i64 (it row q))).drew).cell? ⟨g, o + q, none⟩ = some (.int .i64 (it (row.set p (it row q)) q)) := cb2
      have hfb2 : ((wr.setCell ⟨g, o + p, none⟩ (.int .i64 (it row q))).drew).frozen? ⟨g, o + q, none⟩ = false := fb2
      rw [hR]
      clear hRc hR hon hmem hn1 hn2 hrow hAA ca fa cb cb2 fb2 hrl
      go_upto_region 7 with fail
      obtain ⟨hca, hcb⟩ := HCAB.out
      refine wp_region_F_drew (fun w' => w'.cell? ⟨g, o + p, none⟩ = some (.int .i64 (it row p)) ∧ w'.cell? ⟨g, o + q, none⟩ = some (.int .i64 (it row q))) 13 (by kernel_rfl) ?_ (fun hHeld0 => ?_)
      · ((try dsimp only); exact HCAB.out)
      refine wpAnyF_take (i := 0) (oi := _) (v := ?_) rfl (by kernel_rfl) (by kernel_rfl) (by kernel_rfl) (by kernel_rfl) (fun _ _ _ h => h) (Or.inl ⟨by rfl, ?_⟩) (by assumption) ?_
      rotate_left
      · (intro w hSw; (try dsimp only at hSw); go_simp; try with_reducible rfl)
      try simp only [Act.put, List.setIfInBounds_toArray, List.set_cons_zero, List.set_cons_succ, List.getElem_toArray, List.getElem_cons_zero]
      refine wpAnyF_take (i := 1) (oi := _) (v := ?_) rfl (by kernel_rfl) (by kernel_rfl) (by kernel_rfl) (by kernel_rfl) (fun _ _ _ h => h) (Or.inl ⟨by rfl, ?_⟩) (by assumption) ?_
      rotate_left
      · (intro w hSw; (try dsimp only at hSw); go_simp; try with_reducible rfl)
      try simp only [Act.put, List.setIfInBounds_toArray, List.set_cons_zero, List.set_cons_succ, List.getElem_toArray, List.getElem_cons_zero, List.getElem_cons_succ]
      refine wpAnyF_takeY (i := 2) (oi := _) (v := ?_) rfl (by kernel_rfl) (by kernel_rfl) (by kernel_rfl) (by decide) (fun _ _ _ h => h) (Or.inl ⟨by rfl, ?_⟩) (by assumption) ?_
      rotate_left
      · (intro w hSw; go_simp; try with_reducible rfl)
      try simp only [Act.put, List.setIfInBounds_toArray, List.set_cons_zero, List.set_cons_succ, List.getElem_toArray, List.getElem_cons_zero, List.getElem_cons_succ]
      refine wpAnyF_takeY (i := 3) (oi := _) (v := ?_) rfl (by kernel_rfl) (by kernel_rfl) (by kernel_rfl) (by decide) (fun _ _ _ h => h) (Or.inl ⟨by rfl, ?_⟩) (by assumption) ?_
      rotate_left
      · (intro w hSw; go_simp; try with_reducible rfl)
      try simp only [Act.put, List.setIfInBounds_toArray, List.set_cons_zero, List.set_cons_succ, List.getElem_toArray, List.getElem_cons_zero, List.getElem_cons_succ]
      refine wpAnyF_take (i := 4) (oi := _) (v := ?_) rfl (by kernel_rfl) (by kernel_rfl) (by kernel_rfl) (by kernel_rfl) (fun _ _ _ h => h) (Or.inl ⟨by rfl, ?_⟩) (by assumption) ?_
      rotate_left
      · (intro w hSw; (try dsimp only at hSw); go_simp; try with_reducible rfl)
      try simp only [Act.put, List.setIfInBounds_toArray, List.set_cons_zero, List.set_cons_succ, List.getElem_toArray, List.getElem_cons_zero, List.getElem_cons_succ]
      refine wpAnyF_take (i := 5) (oi := _) (v := ?_) rfl (by kernel_rfl) (by kernel_rfl) (by kernel_rfl) (by kernel_rfl) (fun _ _ _ h => h) (Or.inl ⟨by rfl, ?_⟩) (by assumption) ?_
      rotate_left
      · (intro w hSw; (try dsimp only at hSw); go_simp; try with_reducible rfl)
      try simp only [Act.put, List.setIfInBounds_toArray, List.set_cons_zero, List.set_cons_succ, List.getElem_toArray, List.getElem_cons_zero, List.getElem_cons_succ]
      refine wpAnyF_take (i := 6) (oi := _) (v := ?_) rfl (by kernel_rfl) (by kernel_rfl) (by kernel_rfl) (by kernel_rfl) (fun _ _ _ h => h) (Or.inl ⟨by rfl, ?_⟩) (by assumption) ?_
      rotate_left
      · (intro w hSw; (try dsimp only at hSw); go_simp; try with_reducible rfl)
      try simp only [Act.put, List.setIfInBounds_toArray, List.set_cons_zero, List.set_cons_succ, List.getElem_toArray, List.getElem_cons_zero, List.getElem_cons_succ]
      refine wpAnyF_take (i := 7) (oi := _) (v := ?_) rfl (by kernel_rfl) (by kernel_rfl) (by kernel_rfl) (by kernel_rfl) (fun _ _ _ h => h) (Or.inl ⟨by rfl, ?_⟩) (by assumption) ?_
      rotate_left
      · (intro w hSw; (try dsimp only at hSw); go_simp; try with_reducible rfl)
      try simp only [Act.put, List.setIfInBounds_toArray, List.set_cons_zero, List.set_cons_succ, List.getElem_toArray, List.getElem_cons_zero, List.getElem_cons_succ]
      refine wpAnyF_takeY (i := 8) (oi := _) (v := ?_) rfl (by kernel_rfl) (by kernel_rfl) (by kernel_rfl) (by decide) (fun _ _ _ h => h) (Or.inl ⟨by rfl, ?_⟩) (by assumption) ?_
      rotate_left
      · (intro w hSw; go_simp; try with_reducible rfl)
      try simp only [Act.put, List.setIfInBounds_toArray, List.set_cons_zero, List.set_cons_succ, List.getElem_toArray, List.getElem_cons_zero, List.getElem_cons_succ]
      refine wpAnyF_takeY (i := 9) (oi := _) (v := ?_) rfl (by kernel_rfl) (by kernel_rfl) (by kernel_rfl) (by decide) (fun _ _ _ h => h) (Or.inl ⟨by rfl, ?_⟩) (by assumption) ?_
      rotate_left
      · (intro w hSw; go_simp; try with_reducible rfl)
      try simp only [Act.put, List.setIfInBounds_toArray, List.set_cons_zero, List.set_cons_succ, List.getElem_toArray, List.getElem_cons_zero, List.getElem_cons_succ]
      refine wpAnyF_takeY (i := 10) (oi := _) (v := ?_) rfl (by kernel_rfl) (by kernel_rfl) (by kernel_rfl) (by decide) (fun _ _ _ h => h) (Or.inl ⟨by rfl, ?_⟩) (by assumption) ?_
      rotate_left
      · (intro w hSw; go_simp; try with_reducible rfl)
      try simp only [Act.put, List.setIfInBounds_toArray, List.set_cons_zero, List.set_cons_succ, List.getElem_toArray, List.getElem_cons_zero, List.getElem_cons_succ]
      refine wpAnyF_take (i := 11) (oi := _) (v := ?_) rfl (by kernel_rfl) (by kernel_rfl) (by kernel_rfl) (by kernel_rfl) (fun _ _ _ h => h) (Or.inl ⟨by rfl, ?_⟩) (by assumption) ?_
      rotate_left
      · (intro w hSw; (try dsimp only at hSw); go_simp; try with_reducible rfl)
      try simp only [Act.put, List.setIfInBounds_toArray, List.set_cons_zero, List.set_cons_succ, List.getElem_toArray, List.getElem_cons_zero, List.getElem_cons_succ]
      refine wpAnyF_take (i := 12) (oi := _) (v := ?_) rfl (by kernel_rfl) (by kernel_rfl) (by kernel_rfl) (by kernel_rfl) (fun _ _ _ h => h) (Or.inl ⟨by rfl, ?_⟩) (by assumption) ?_
      rotate_left
      · (intro w hSw; (try dsimp only at hSw); go_simp; try with_reducible rfl)
      try simp only [Act.put, List.setIfInBounds_toArray, List.set_cons_zero, List.set_cons_succ, List.getElem_toArray, List.getElem_cons_zero, List.getElem_cons_succ]
      refine wpAnyF_last (by kernel_rfl) rfl (fun K hK => ?_)
      go_simp
      refine hK.out _ _ ?_
      clear hK K
      refine wpAnyF_after (i := 14) (by kernel_rfl) rfl (by kernel_rfl) (fun K hK => ?_)
      go_simp
      refine hK.out _ _ ?_
      clear hK K
      refine wpAnyF_after (i := 15) (by kernel_rfl) rfl (by kernel_rfl) (fun K hK => ?_)
      go_simp
      refine hK.out _ _ ?_
      clear hK K
      refine wpAnyF_done (by kernel_rfl) ?_ _
      go_wp2
      go_roundw
      case rel => exact ⟨t + 1, by omega, by go_num, Lib.hid (Nst.keepB HN.out.2.2.1 (below_drew _)), Lib.hid (Nst.keepB HN.out.2.2.2 (below_drew _)), Lib.hid ((HON.out.trans (HN.out.1.mono (fun i e => by have e' : i = g := e; rw [e']; exact HN.out.2.1))).then (Below.mono (below_drew _) (HON.out.trans (HN.out.1.mono (T := iv w2.heap.size w3.heap.size) (fun i e => by have e' : i = g := e; rw [e']; exact HN.out.2.1))).size))⟩
      case measure => simp [intOf]; omega
    · obtain rfl : t = L.length := by omega
      have hls := HLs.out
      have HF1 := Lib.hid (show Nst.Own U1 wr (swpQ y.G p q y.G.xs.length) by rw [swpQ_more y.G p q (k := y.G.xs.length) (m := L.length) (Nat.le_refl _) (by omega)]; exact HA1.out)
      have HF2 := Lib.hid (show Nst.Own U2 wr (swpQ y.C p q y.C.xs.length) by have h := HA2.out; rw [show L.length - y.G.xs.length = y.C.xs.length by omega] at h; exact h)
      clear hls
      have HNo := Lib.hid (HON.out.mono (T := iv w2.heap.size w3.heap.size) (fun i hi => hi))
      have hx3 := HX4.out.lt
      have hsz3 := HB3.out.size
      have HXe := Lib.hid ((HX4.out.mem.below HBW.out HX4.out.lt).only HON.out (Nat.lt_of_lt_of_le HX4.out.lt HBW.out.size) (fun hi => Nat.lt_irrefl _ hi.2))
      have HMe := Lib.hid ((HM4.out.below HBW.out (Nat.lt_of_lt_of_le hl2 HB4.out.size)).only HON.out (Nat.lt_of_lt_of_le (Nat.lt_of_lt_of_le hl2 HB4.out.size) HBW.out.size) (fun hi => Nat.not_lt_of_le hi.1 hl2))
      have HBe := Lib.hid (show Below w2.heap.size w2 wr from (below_next HB4.out HBW.out).trans (HON.out.below (by have := HB4.out.size; have := HBW.out.size; omega) (fun i hi => hi.1)))
      have e2 : (w3.heap.size = w.heap.size + 1) = False := by simp; omega
      have e3 : (w.heap.size + 1 = w3.heap.size) = False := by simp; omega
      obtain ⟨n0, n1, nf⟩ := HXe.out
      obtain ⟨m0, m1, mf⟩ := HMe.out
      go_wp2_with fail
      clear n0 n1 nf m0 m1 mf
      have hn9 := (HMe.out.set0 (.slice y.G.A y.G.xs.length y.G.c)).set1 (.slice y.C.A y.C.xs.length y.C.c)
      have ht : Only (fun i => i = w.heap.size + 1) wr ((wr.setCell ⟨w.heap.size + 1, 0, none⟩ (.slice y.G.A y.G.xs.length y.G.c)).setCell ⟨w.heap.size + 1, 1, none⟩ (.slice y.C.A y.C.xs.length y.C.c)) := ((Only.refl (fun i => i = w.heap.size + 1) wr).put (w.heap.size + 1) 0 rfl _).put (w.heap.size + 1) 1 rfl _
      obtain ⟨m0, m1, mf⟩ := hn9
      refine bodyPost_ret (v := .tuple #[.agg #[.slice y.G.A y.G.xs.length y.G.c, .slice y.C.A y.C.xs.length y.C.c], .bool true]) (by simp [results, Try.results36, go_sem, m0, m1]) rfl ?_
      have hb9 := ht.below (B := w.heap.size) (by have := HBe.out.size; have := HB2.out.size; omega) (fun i hi => by omega)
      have hA : MrAns ((ctt y.G).map (swpL p q)) ((ctt y.C).map (swpL p q)) w2 wr ⟨swpQ y.G p q y.G.xs.length, swpQ y.C p q y.C.xs.length⟩ := ⟨⟨U1, U2, HF1.out, HF2.out, fun i hi => ⟨(HU.out.s1 i hi).1, Nat.lt_of_lt_of_le (HU.out.s1 i hi).2 (by have := HB4.out.size; have := HBe.out.size; have := HON.out.size; have := HBW.out.size; omega)⟩, fun i hi => ⟨(HU.out.s2 i hi).1, Nat.lt_of_lt_of_le (HU.out.s2 i hi).2 (by have := HB4.out.size; have := HON.out.size; have := HBW.out.size; omega)⟩, HU.out.d12⟩, swpQ_ctt _ _ _ _ (Nat.le_refl _), swpQ_ctt _ _ _ _ (Nat.le_refl _)⟩
      have hA2 := (hA.keep ht (.inl hl2)).from HB2.out.size
      rw [HS.out.cg, HS.out.cc] at hA2
      rw [pB_yes HOK.out, (sw_yes HOK.out).1, (sw_yes HOK.out).2, Int.toNat_natCast, Int.toNat_natCast]
      refine ⟨⟨_, ?_, hA2⟩, (below_next HB2.out HBe.out).trans hb9⟩
      show Ending.returned (.tuple #[.agg #[.slice y.G.A _ y.G.c, .slice y.C.A _ y.C.c], _]) = Ending.returned (.tuple #[.agg #[.slice y.G.A _ y.G.c, .slice y.C.A _ y.C.c], _])
      rw [swpQ_len, swpQ_len]
end Go.Proofs.Ytfeffkjmjkddnaa
