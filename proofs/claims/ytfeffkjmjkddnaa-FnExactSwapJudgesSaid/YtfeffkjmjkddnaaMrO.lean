/- SetGrade and SetComponent, of both sides. -/
import Derived.Test.YtfeffkjmjkddnaaMrN
import Derived.Deep.Cut
namespace Go.Proofs.Ytfeffkjmjkddnaa
open Go.ChangeShapes Go.WideShapes Go.ChangeAt Go.RowKit Go.Lib Go.Proofs Go.PlainAid
set_option linter.unusedVariables false

structure SgOk (g c : List (List Int)) (i j v : Int) : Prop where
  has : MkHas g c j
  lo : 0 ≤ i
  hi : i < (g.length : Int)
  ok : MkL (setL g i.toNat j.toNat v) c
structure ScOk (g c : List (List Int)) (i j v : Int) : Prop where
  has : MkHas g c j
  lo : 0 ≤ i
  hi : i < 3
  ok : MkL g (setL c i.toNat j.toNat v)
noncomputable def sgG (g c : List (List Int)) (i j v : Int) : List (List Int) := pIf (SgOk g c i j v) (setL g i.toNat j.toNat v) []
noncomputable def sgC (g c : List (List Int)) (i j v : Int) : List (List Int) := pIf (SgOk g c i j v) c []
noncomputable def scG (g c : List (List Int)) (i j v : Int) : List (List Int) := pIf (ScOk g c i j v) g []
noncomputable def scC (g c : List (List Int)) (i j v : Int) : List (List Int) := pIf (ScOk g c i j v) (setL c i.toNat j.toNat v) []
theorem sg_no {g c : List (List Int)} {i j v : Int} (h : ¬ SgOk g c i j v) : sgG g c i j v = [] ∧ sgC g c i j v = [] := ⟨pIf_no h, pIf_no h⟩
theorem sg_yes {g c : List (List Int)} {i j v : Int} (h : SgOk g c i j v) : sgG g c i j v = setL g i.toNat j.toNat v ∧ sgC g c i j v = c := ⟨pIf_yes h, pIf_yes h⟩
theorem sc_no {g c : List (List Int)} {i j v : Int} (h : ¬ ScOk g c i j v) : scG g c i j v = [] ∧ scC g c i j v = [] := ⟨pIf_no h, pIf_no h⟩
theorem sc_yes {g c : List (List Int)} {i j v : Int} (h : ScOk g c i j v) : scG g c i j v = g ∧ scC g c i j v = setL c i.toNat j.toNat v := ⟨pIf_yes h, pIf_yes h⟩
theorem nfit_setQ {q : Rw (Rw Int)} (h : NFit q) (i j : Nat) (v : Int) (hi : i < q.xs.length) : NFit (setQ q i j v) := by
  have h1 : q.xs.length + sumTo (fun i => Nst.wt (it q.xs i)) q.xs.length ≤ 1048576 := h
  have h2 := sumTo_mono (fun k => Nst.wt (it (setQ q i j v).xs k)) (fun k => Nst.wt (it q.xs k)) q.xs.length (fun k hk => by
    show (it (setQ q i j v).xs k).xs.length ≤ (it q.xs k).xs.length
    rw [setQ_it q i j v hi]
    by_cases e : k = i
    · rw [if_pos e, e]
      show ((it q.xs i).xs.set j v).length ≤ _
      rw [List.length_set]
      exact Nat.le_refl _
    · rw [if_neg e]
      exact Nat.le_refl _)
  show (setQ q i j v).xs.length + sumTo (fun k => Nst.wt (it (setQ q i j v).xs k)) (setQ q i j v).xs.length ≤ 1048576
  rw [setQ_len]
  omega
theorem okMr_ans {w0 w w' : World} {z : Mr} {a b : Nat} (ho : MrOwn (iv a b) w z) (hb : Below w.heap.size w w') (h1 : w0.heap.size ≤ a) (h2 : b ≤ w.heap.size) : MrAns (pIf (MkL (ctt z.G) (ctt z.C)) (ctt z.G) []) (pIf (MkL (ctt z.G) (ctt z.C)) (ctt z.C) []) w0 w' (okMr z) := by
  by_cases h : MkL (ctt z.G) (ctt z.C)
  · rw [pIf_yes h, pIf_yes h, show okMr z = z from pIf_yes h]
    have h3 := hb.size
    exact ⟨(ho.next hb).mono (fun i hi => ⟨by have := hi.1; omega, by have := hi.2; omega⟩), rfl, rfl⟩
  · rw [pIf_no h, pIf_no h, show okMr z = nilMr from pIf_no h]
    exact mrAns_nil _ _
theorem pIf_iff {α : Type} {p q : Prop} {a b : α} (h : p ↔ q) : pIf p a b = pIf q a b := by
  by_cases k : q
  · rw [pIf_yes k, pIf_yes (h.2 k)]
  · rw [pIf_no k, pIf_no (fun r => k (h.1 r))]
theorem MrAns.keep {g c : List (List Int)} {w0 w w' : World} {y : Mr} {b : Nat} (h : MrAns g c w0 w y) (ht : Only (fun i => i = b) w w') (hb : b < w0.heap.size ∨ ¬ iv w0.heap.size w.heap.size b) : MrAns g c w0 w' y :=
  ⟨(h.own.keep ht (fun i hi e => by subst e; rcases hb with q | q; · have := hi.1; omega
                                    · exact q hi)).mono (fun i hi => ⟨hi.1, Nat.lt_of_lt_of_le hi.2 ht.size⟩), h.G, h.C⟩
theorem mrSame_of {g c : List (List Int)} {y z : Mr} (h : ctt y.G = g ∧ ctt y.C = c) (k : ctt z.G = g ∧ ctt z.C = c) : MrSame y z := ⟨ctt_eqv (k.1.trans h.1.symm), ctt_eqv (k.2.trans h.2.symm)⟩
theorem sg_fits {g c : List (List Int)} {i j v : Int} {y : Mr} (h : ctt y.G = sgG g c i j v) (k : ctt y.C = sgC g c i j v) : MrFits y := by
  by_cases q : SgOk g c i j v
  · rw [(sg_yes q).1] at h
    rw [(sg_yes q).2] at k
    exact mkL_fits (by rw [h, k]; exact q.ok)
  · rw [(sg_no q).1] at h
    rw [(sg_no q).2] at k
    exact ⟨nil_fit h, nil_fit k⟩
theorem sc_fits {g c : List (List Int)} {i j v : Int} {y : Mr} (h : ctt y.G = scG g c i j v) (k : ctt y.C = scC g c i j v) : MrFits y := by
  by_cases q : ScOk g c i j v
  · rw [(sc_yes q).1] at h
    rw [(sc_yes q).2] at k
    exact mkL_fits (by rw [h, k]; exact q.ok)
  · rw [(sc_no q).1] at h
    rw [(sc_no q).2] at k
    exact ⟨nil_fit h, nil_fit k⟩
theorem MrAns.from {g c : List (List Int)} {w0 w1 w : World} {y : Mr} (h : MrAns g c w1 w y) (hb : w0.heap.size ≤ w1.heap.size) : MrAns g c w0 w y :=
  ⟨h.own.mono (fun i hi => ⟨by have := hi.1; omega, hi.2⟩), h.G, h.C⟩
set_option maxHeartbeats 8000000 in
set_option maxRecDepth 20000 in
theorem sSetGrade_any (x : Mr) (i j v : Int) (w : World) (hr : MrIn w w.heap.size x) (hl : MrFits x) :
    Calls Try.prog 25 #[x.val, .int .i64 i, .int .i64 j, .int .i64 v] w fun e w' => (∃ y : Mr, e = .returned (.tuple #[.agg #[.slice y.G.A y.G.xs.length y.G.c, .slice y.C.A y.C.xs.length y.C.c], .bool (pB (SgOk (ctt x.G) (ctt x.C) i j v))]) ∧ MrAns (sgG (ctt x.G) (ctt x.C) i j v) (sgC (ctt x.G) (ctt x.C) i j v) w w' y) ∧ Below w.heap.size w w' := by
  have HR := Lib.hid hr
  have HF := Lib.hid hl
  have hg1 := nfit_len hl.g
  have hc1 := nfit_len hl.c
  clear hr hl
  unfold Mr.val
  obtain ⟨W, hW, hB0, hX, hM, hlt⟩ : ∃ W, W = (w.alloc (.cells #[.slice x.G.A x.G.xs.length x.G.c, .slice x.C.A x.C.xs.length x.C.c] 27)).alloc (.cells #[.slice none 0 0, .slice none 0 0] 27) ∧ Below w.heap.size w W ∧ Mem2 W w.heap.size (.slice x.G.A x.G.xs.length x.G.c) (.slice x.C.A x.C.xs.length x.C.c) ∧ Mem2 W (w.heap.size + 1) (.slice none 0 0) (.slice none 0 0) ∧ w.heap.size + 1 < W.heap.size :=
    ⟨_, rfl, below_next (below_alloc _ _) (below_alloc _ _), (mem2_new w _ _ rfl _ _).below (below_alloc _ _) (by simp), mem2_new _ _ _ (by simp) _ _, by simp⟩
  have HB0 := Lib.hid hB0
  have HX := Lib.hid hX
  have HM := Lib.hid hM
  have HC := Lib.hid (mkHas_any x j W (HR.out.next hB0) HF.out)
  clear hB0 hX hM
  unfold Mr.val at HC
  obtain ⟨a0, a1, af⟩ := HX.out
  rw [hW] at a0 a1
  go_enter Try.func25, Try.ntmps25
  go_wp2_with fail
  rw [← hW]
  clear hW a0 a1 af
  by_cases h1 : MkHas (ctt x.G) (ctt x.C) j
  rotate_left
  · rw [pB_no h1] at HC
    have HNO := Lib.hid (fun q : SgOk (ctt x.G) (ctt x.C) i j v => h1 q.has)
    clear h1
    refine HC.out.mono ?_
    rintro e w1 ⟨rfl, hb1⟩
    have HB1 := Lib.hid (below_next HB0.out hb1)
    have hn := HM.out.below hb1 hlt
    have hn9 := (hn.set0 (.slice none 0 0)).set1 (.slice none 0 0)
    have HB9 := Lib.hid ((HB1.out.setCell (p := ⟨w.heap.size + 1, 0, none⟩) (Nat.le_succ _) (.slice none 0 0)).setCell (p := ⟨w.heap.size + 1, 1, none⟩) (Nat.le_succ _) (.slice none 0 0))
    have HN9 := Lib.hid hn9
    clear hb1 hn9
    obtain ⟨n0, n1, nf⟩ := hn
    go_wp2_with fail
    clear n0 n1 nf
    obtain ⟨m0, m1, mf⟩ := HN9.out
    refine bodyPost_ret (v := .tuple #[.agg #[.slice none 0 0, .slice none 0 0], .bool false]) (by simp [results, Try.results25, go_sem, m0, m1]) rfl ?_
    rw [pB_no HNO.out, (sg_no HNO.out).1, (sg_no HNO.out).2]
    exact ⟨⟨nilMr, rfl, mrAns_nil _ _⟩, HB9.out⟩
  rw [pB_yes h1] at HC
  have H1 := Lib.hid h1
  clear h1
  by_cases h2 : 0 ≤ i ∧ i < (x.G.xs.length : Int)
  rotate_left
  · have HLI := Lib.hid (pB_no (show ¬ (0 ≤ i ∧ i ≤ ((x.G.xs.length : Int) - 1)) by omega))
    have HNO := Lib.hid (fun q : SgOk (ctt x.G) (ctt x.C) i j v => h2 ⟨q.lo, by have h1 := q.hi; rw [ctt_len] at h1; exact h1⟩)
    clear h2
    refine HC.out.mono ?_
    rintro e w1 ⟨rfl, hb1⟩
    have HB1 := Lib.hid (below_next HB0.out hb1)
    obtain ⟨x0, x1, xf⟩ := HX.out.below hb1 (by omega)
    have hn := HM.out.below hb1 hlt
    have hn9 := (hn.set0 (.slice none 0 0)).set1 (.slice none 0 0)
    have HB9 := Lib.hid ((HB1.out.setCell (p := ⟨w.heap.size + 1, 0, none⟩) (Nat.le_succ _) (.slice none 0 0)).setCell (p := ⟨w.heap.size + 1, 1, none⟩) (Nat.le_succ _) (.slice none 0 0))
    have HN9 := Lib.hid hn9
    clear hb1 hn9
    obtain ⟨n0, n1, nf⟩ := hn
    go_wp2_with (go_at_call 53; refine (l1In_any _ _ _ _).mono ?_; rintro e w3 ⟨rfl, rfl⟩; rw [HLI.out])
    clear n0 n1 nf
    obtain ⟨m0, m1, mf⟩ := HN9.out
    refine bodyPost_ret (v := .tuple #[.agg #[.slice none 0 0, .slice none 0 0], .bool false]) (by simp [results, Try.results25, go_sem, m0, m1]) rfl ?_
    rw [pB_no HNO.out, (sg_no HNO.out).1, (sg_no HNO.out).2]
    exact ⟨⟨nilMr, rfl, mrAns_nil _ _⟩, HB9.out⟩
  have HLI := Lib.hid (pB_yes (show 0 ≤ i ∧ i ≤ ((x.G.xs.length : Int) - 1) by omega))
  obtain ⟨n, rfl⟩ : ∃ n : Nat, i = (n : Int) := ⟨i.toNat, by omega⟩
  have hn : n < x.G.xs.length := by omega
  clear h2
  obtain ⟨m, rfl⟩ : ∃ m : Nat, j = (m : Int) := ⟨j.toNat, by have := H1.out.lo; omega⟩
  have HOK := Lib.hid (show MkL (setL (ctt x.G) n m v) (ctt x.C) ↔ SgOk (ctt x.G) (ctt x.C) n m v from ⟨fun h => ⟨H1.out, by omega, by rw [ctt_len]; omega, by rw [Int.toNat_natCast, Int.toNat_natCast]; exact h⟩, fun h => by have := h.ok; rw [Int.toNat_natCast, Int.toNat_natCast] at this; exact this⟩)
  refine HC.out.mono ?_
  rintro e w1 ⟨rfl, hb1⟩
  have HB1 := Lib.hid (below_next HB0.out hb1)
  have HM1 := Lib.hid (HM.out.below hb1 hlt)
  have hl1 := Nat.lt_of_lt_of_le hlt hb1.size
  have hlw := hl1
  obtain ⟨x0, x1, xf⟩ := HX.out.below hb1 (by omega)
  have HCO := Lib.hid (mkOwn_any x w1 (HR.out.next HB1.out) HF.out H1.out.ok)
  unfold Mr.val at HCO
  clear hb1 HC HB0 HX HM
  go_upto_region 4 with (first
    | (go_at_call 53; refine (l1In_any _ _ _ _).mono ?_; rintro e w1 ⟨rfl, rfl⟩; rw [HLI.out])
    | (go_at_call 54; refine HCO.out.mono ?_; rintro e w2 ⟨⟨y, rfl, hs, hy⟩, hb2⟩; have HS := Lib.hid hs; have HY := Lib.hid hy; have HB2 := Lib.hid hb2; clear hs hy hb2))
  have HB4 := Lib.hid (below_next HB2.out (below_alloc w2 (.cells #[.slice y.G.A y.G.xs.length y.G.c, .slice y.C.A y.C.xs.length y.C.c] 27)))
  have HX4 := Lib.hid (mrBox_new w2 27 y)
  have HY4 := Lib.hid (HY.out.next (below_alloc w2 (.cells #[.slice y.G.A y.G.xs.length y.G.c, .slice y.C.A y.C.xs.length y.C.c] 27)))
  generalize World.alloc w2 _ = w4 at HB4 HX4 HY4 ⊢
  have HM4 := Lib.hid (HM1.out.below HB4.out hl1)
  have hl4 := Nat.lt_of_lt_of_le hl1 HB4.out.size
  have hn2 : n < y.G.xs.length := by have h3 := Nst.eqv_len HS.out.g; omega
  have hm2 : m < (it y.G.xs n).xs.length := by
    have h3 : (it y.G.xs n).xs = (it x.G.xs n).xs := (show NEqv x.G.xs y.G.xs from HS.out.g).each n hn
    have h4 := (H1.out.ok.gs n (by rw [ctt_len]; exact hn)).len
    rw [ctt_it] at h4
    have h5 := H1.out.hi
    rw [h3]
    omega
  obtain ⟨U1, U2, hu⟩ := HY4.out
  obtain ⟨bo, oo, b, o, hset⟩ := own_setInt hu.g n m hn2 hm2 v
  have HSET := Lib.hid hset
  have hsb : iv w1.heap.size w2.heap.size b := hu.s1 b hset.mem
  have hbx : b ≠ w2.heap.size := by have := hsb.2; omega
  have hbr : b ≠ w.heap.size + 1 := by have := hsb.1; omega
  obtain ⟨z, hz⟩ : ∃ z : Mr, z = ⟨setQ y.G n m v, y.C⟩ := ⟨_, rfl⟩
  have HZO := Lib.hid (show MrOwn (iv w1.heap.size w2.heap.size) (w4.setCell ⟨b, o + m, none⟩ (.int .i64 v)) z by
    rw [hz]
    exact ⟨U1, U2, hset.own, Nst.own_keep hu.c (only_cell w4 b (o + m) _) (fun i hi e => by subst e; exact hu.d12 i hset.mem hi), hu.s1, hu.s2, hu.d12⟩)
  have HZC := Lib.hid (show ctt z.G = setL (ctt x.G) n m v ∧ ctt z.C = ctt x.C by
    rw [hz]
    exact ⟨by show ctt (setQ y.G n m v) = _; rw [ctt_setQ _ _ _ _ hn2, HS.out.cg], HS.out.cc⟩)
  have HZF := Lib.hid (show MrFits z by
    rw [hz]
    exact ⟨nfit_setQ (HS.out.fits HF.out).g n m v hn2, (HS.out.fits HF.out).c⟩)
  have HZB := Lib.hid (show Mem2 (w4.setCell ⟨b, o + m, none⟩ (.int .i64 v)) w2.heap.size (.slice z.G.A z.G.xs.length z.G.c) (.slice z.C.A z.C.xs.length z.C.c) by
    have h3 := HX4.out.mem.other ⟨b, o + m, none⟩ hbx (.int .i64 v)
    rw [hz]
    show Mem2 _ _ (.slice y.G.A (setQ y.G n m v).xs.length y.G.c) (.slice y.C.A y.C.xs.length y.C.c)
    rw [setQ_len]
    exact h3)
  have HB5 := Lib.hid (show Below w1.heap.size w1 (w4.setCell ⟨b, o + m, none⟩ (.int .i64 v)) from HB4.out.setCell hsb.1 _)
  have HM5 := Lib.hid (HM4.out.other ⟨b, o + m, none⟩ hbr (.int .i64 v))
  have hl5 : w.heap.size + 1 < (w4.setCell ⟨b, o + m, none⟩ (.int .i64 v)).heap.size := by simpa [World.setCell] using hl4
  have HS2 := Lib.hid (show w2.heap.size ≤ (w4.setCell ⟨b, o + m, none⟩ (.int .i64 v)).heap.size by have := HX4.out.lt; simp [World.setCell]; omega)
  have hi1 : (0 : Int) ≤ (n : Int) := by omega
  have hi2 : (n : Int) < (y.G.xs.length : Int) := by omega
  have hj1 : (0 : Int) ≤ (m : Int) := by omega
  have hj2 : (m : Int) < ((it y.G.xs n).xs.length : Int) := by omega
  have hyl : y.G.xs.length ≤ 1048576 := nfit_len (HS.out.fits HF.out).g
  have hyr : (it y.G.xs n).xs.length ≤ 1048576 := nfit_len (nfit_each (HS.out.fits HF.out).g n hn2)
  obtain ⟨b0, b1, bf⟩ := HX4.out.mem
  rw [hset.A] at b0
  have r0 := hset.row
  have d0 := hset.cell
  have f0 := hset.free
  clear hset hu hz HY4 HX4 hbx hbr x0 x1 xf HCO
  go_upto_region 5 with fail
  revert HZO HZB HB5 HM5 hl5 HS2
  clear r0 d0 f0 b0 b1 bf HSET
  generalize World.setCell w4 _ _ = w5
  intro HZO HZB HB5 HM5 hl5 HS2
  obtain ⟨b0, b1, bf⟩ := HZB.out
  go_wp2_with (go_at_call 55; refine (mkIf_any z w5 HZO.out.mr HZF.out).mono ?_; rintro e w6 ⟨rfl, hb6⟩; have HA6 := Lib.hid (okMr_ans (w0 := w1) HZO.out hb6 (Nat.le_refl _) HS2.out); have HB6 := Lib.hid (below_next HB5.out hb6); have HN6 := Lib.hid (HM5.out.below hb6 hl5); obtain ⟨m0, m1, mf⟩ := HN6.out; generalize okMr z = u at HA6 ⊢; clear hb6)
  have hn9 := (HN6.out.set0 (.slice u.G.A u.G.xs.length u.G.c)).set1 (.slice u.C.A u.C.xs.length u.C.c)
  have ht : Only (fun i => i = w.heap.size + 1) w6 ((w6.setCell ⟨w.heap.size + 1, 0, none⟩ (.slice u.G.A u.G.xs.length u.G.c)).setCell ⟨w.heap.size + 1, 1, none⟩ (.slice u.C.A u.C.xs.length u.C.c)) := ((Only.refl (fun i => i = w.heap.size + 1) w6).put (w.heap.size + 1) 0 rfl _).put (w.heap.size + 1) 1 rfl _
  clear m0 m1 mf
  obtain ⟨m0, m1, mf⟩ := hn9
  refine bodyPost_ret (v := .tuple #[.agg #[.slice u.G.A u.G.xs.length u.G.c, .slice u.C.A u.C.xs.length u.C.c], .bool (pB (MkL (ctt z.G) (ctt z.C)))]) (by simp [results, Try.results25, go_sem, m0, m1]) rfl ?_
  have hb9 := ht.below (B := w.heap.size) (by have := HB6.out.size; have := HB1.out.size; omega) (fun i hi => by omega)
  have hA := (HA6.out.keep ht (.inl hlw)).from HB1.out.size
  rw [HZC.out.1, HZC.out.2] at hA ⊢
  rw [pIf_iff HOK.out, pIf_iff HOK.out] at hA
  rw [pB_iff HOK.out]
  exact ⟨⟨u, rfl, hA⟩, (below_next HB1.out HB6.out).trans hb9⟩
set_option maxHeartbeats 8000000 in
set_option maxRecDepth 20000 in
theorem iSetGrade_any (x : Mr) (i j v : Int) (w : World) (hr : MrIn w w.heap.size x) (hl : MrFits x) :
    Calls Try.prog 26 #[x.val, .int .i64 i, .int .i64 j, .int .i64 v] w fun e w' => (∃ y : Mr, e = .returned (.tuple #[.agg #[.slice y.G.A y.G.xs.length y.G.c, .slice y.C.A y.C.xs.length y.C.c], .bool (pB (SgOk (ctt x.G) (ctt x.C) i j v))]) ∧ MrAns (sgG (ctt x.G) (ctt x.C) i j v) (sgC (ctt x.G) (ctt x.C) i j v) w w' y) ∧ Below w.heap.size w w' := by
  have HR := Lib.hid hr
  have HF := Lib.hid hl
  have hg1 := nfit_len hl.g
  have hc1 := nfit_len hl.c
  clear hr hl
  unfold Mr.val
  obtain ⟨W, hW, hB0, hX, hM, hlt⟩ : ∃ W, W = (w.alloc (.cells #[.slice x.G.A x.G.xs.length x.G.c, .slice x.C.A x.C.xs.length x.C.c] 27)).alloc (.cells #[.slice none 0 0, .slice none 0 0] 27) ∧ Below w.heap.size w W ∧ Mem2 W w.heap.size (.slice x.G.A x.G.xs.length x.G.c) (.slice x.C.A x.C.xs.length x.C.c) ∧ Mem2 W (w.heap.size + 1) (.slice none 0 0) (.slice none 0 0) ∧ w.heap.size + 1 < W.heap.size :=
    ⟨_, rfl, below_next (below_alloc _ _) (below_alloc _ _), (mem2_new w _ _ rfl _ _).below (below_alloc _ _) (by simp), mem2_new _ _ _ (by simp) _ _, by simp⟩
  have HB0 := Lib.hid hB0
  have HX := Lib.hid hX
  have HM := Lib.hid hM
  have HC := Lib.hid (hasJudge_any x j W (HR.out.next hB0) HF.out)
  clear hB0 hX hM
  unfold Mr.val at HC
  obtain ⟨a0, a1, af⟩ := HX.out
  rw [hW] at a0 a1
  go_enter Try.func26, Try.ntmps26
  go_wp2_with fail
  rw [← hW]
  clear hW a0 a1 af
  by_cases h1 : MkHas (ctt x.G) (ctt x.C) j
  rotate_left
  · rw [pB_no h1] at HC
    have HNO := Lib.hid (fun q : SgOk (ctt x.G) (ctt x.C) i j v => h1 q.has)
    clear h1
    refine HC.out.mono ?_
    rintro e w1 ⟨rfl, hb1⟩
    have HB1 := Lib.hid (below_next HB0.out hb1)
    have hn := HM.out.below hb1 hlt
    have hn9 := (hn.set0 (.slice none 0 0)).set1 (.slice none 0 0)
    have HB9 := Lib.hid ((HB1.out.setCell (p := ⟨w.heap.size + 1, 0, none⟩) (Nat.le_succ _) (.slice none 0 0)).setCell (p := ⟨w.heap.size + 1, 1, none⟩) (Nat.le_succ _) (.slice none 0 0))
    have HN9 := Lib.hid hn9
    clear hb1 hn9
    obtain ⟨n0, n1, nf⟩ := hn
    go_wp2_with fail
    clear n0 n1 nf
    obtain ⟨m0, m1, mf⟩ := HN9.out
    refine bodyPost_ret (v := .tuple #[.agg #[.slice none 0 0, .slice none 0 0], .bool false]) (by simp [results, Try.results26, go_sem, m0, m1]) rfl ?_
    rw [pB_no HNO.out, (sg_no HNO.out).1, (sg_no HNO.out).2]
    exact ⟨⟨nilMr, rfl, mrAns_nil _ _⟩, HB9.out⟩
  rw [pB_yes h1] at HC
  have H1 := Lib.hid h1
  clear h1
  by_cases h2 : 0 ≤ i
  rotate_left
  · have h2' : i < 0 := by omega
    have HNO := Lib.hid (fun q : SgOk (ctt x.G) (ctt x.C) i j v => h2 q.lo)
    clear h2
    refine HC.out.mono ?_
    rintro e w1 ⟨rfl, hb1⟩
    have HB1 := Lib.hid (below_next HB0.out hb1)
    obtain ⟨x0, x1, xf⟩ := HX.out.below hb1 (by omega)
    have hn := HM.out.below hb1 hlt
    have hn9 := (hn.set0 (.slice none 0 0)).set1 (.slice none 0 0)
    have HB9 := Lib.hid ((HB1.out.setCell (p := ⟨w.heap.size + 1, 0, none⟩) (Nat.le_succ _) (.slice none 0 0)).setCell (p := ⟨w.heap.size + 1, 1, none⟩) (Nat.le_succ _) (.slice none 0 0))
    have HN9 := Lib.hid hn9
    clear hb1 hn9
    obtain ⟨n0, n1, nf⟩ := hn
    go_wp2_with fail
    clear n0 n1 nf
    obtain ⟨m0, m1, mf⟩ := HN9.out
    refine bodyPost_ret (v := .tuple #[.agg #[.slice none 0 0, .slice none 0 0], .bool false]) (by simp [results, Try.results26, go_sem, m0, m1]) rfl ?_
    rw [pB_no HNO.out, (sg_no HNO.out).1, (sg_no HNO.out).2]
    exact ⟨⟨nilMr, rfl, mrAns_nil _ _⟩, HB9.out⟩
  have H2 := Lib.hid h2
  by_cases h2 : i < (x.G.xs.length : Int)
  rotate_left
  · have h2' : (x.G.xs.length : Int) ≤ i := by omega
    have h0' := H2.out
    have HNO := Lib.hid (fun q : SgOk (ctt x.G) (ctt x.C) i j v => h2 (by have h1 := q.hi; rw [ctt_len] at h1; exact h1))
    clear h2
    refine HC.out.mono ?_
    rintro e w1 ⟨rfl, hb1⟩
    have HB1 := Lib.hid (below_next HB0.out hb1)
    obtain ⟨x0, x1, xf⟩ := HX.out.below hb1 (by omega)
    have hn := HM.out.below hb1 hlt
    have hn9 := (hn.set0 (.slice none 0 0)).set1 (.slice none 0 0)
    have HB9 := Lib.hid ((HB1.out.setCell (p := ⟨w.heap.size + 1, 0, none⟩) (Nat.le_succ _) (.slice none 0 0)).setCell (p := ⟨w.heap.size + 1, 1, none⟩) (Nat.le_succ _) (.slice none 0 0))
    have HN9 := Lib.hid hn9
    clear hb1 hn9
    obtain ⟨n0, n1, nf⟩ := hn
    go_wp2_with fail
    clear n0 n1 nf
    obtain ⟨m0, m1, mf⟩ := HN9.out
    refine bodyPost_ret (v := .tuple #[.agg #[.slice none 0 0, .slice none 0 0], .bool false]) (by simp [results, Try.results26, go_sem, m0, m1]) rfl ?_
    rw [pB_no HNO.out, (sg_no HNO.out).1, (sg_no HNO.out).2]
    exact ⟨⟨nilMr, rfl, mrAns_nil _ _⟩, HB9.out⟩
  obtain ⟨n, rfl⟩ : ∃ n : Nat, i = (n : Int) := ⟨i.toNat, by have := H2.out; omega⟩
  have hn : n < x.G.xs.length := by omega
  obtain ⟨m, rfl⟩ : ∃ m : Nat, j = (m : Int) := ⟨j.toNat, by have := H1.out.lo; omega⟩
  have HOK := Lib.hid (show MkL (setL (ctt x.G) n m v) (ctt x.C) ↔ SgOk (ctt x.G) (ctt x.C) n m v from ⟨fun h => ⟨H1.out, by omega, by rw [ctt_len]; omega, by rw [Int.toNat_natCast, Int.toNat_natCast]; exact h⟩, fun h => by have := h.ok; rw [Int.toNat_natCast, Int.toNat_natCast] at this; exact this⟩)
  refine HC.out.mono ?_
  rintro e w1 ⟨rfl, hb1⟩
  have HB1 := Lib.hid (below_next HB0.out hb1)
  have HM1 := Lib.hid (HM.out.below hb1 hlt)
  have hl1 := Nat.lt_of_lt_of_le hlt hb1.size
  have hlw := hl1
  obtain ⟨x0, x1, xf⟩ := HX.out.below hb1 (by omega)
  have HCO := Lib.hid (copyOfMarks_any x w1 (HR.out.next HB1.out) HF.out H1.out.ok)
  unfold Mr.val at HCO
  clear hb1 HC HB0 HX HM
  go_upto_region 4 with (first
    
    | (go_at_call 56; refine HCO.out.mono ?_; rintro e w2 ⟨⟨y, rfl, hs, hy⟩, hb2⟩; have HS := Lib.hid hs; have HY := Lib.hid hy; have HB2 := Lib.hid hb2; clear hs hy hb2))
  have HB4 := Lib.hid (below_next HB2.out (below_alloc w2 (.cells #[.slice y.G.A y.G.xs.length y.G.c, .slice y.C.A y.C.xs.length y.C.c] 27)))
  have HX4 := Lib.hid (mrBox_new w2 27 y)
  have HY4 := Lib.hid (HY.out.next (below_alloc w2 (.cells #[.slice y.G.A y.G.xs.length y.G.c, .slice y.C.A y.C.xs.length y.C.c] 27)))
  generalize World.alloc w2 _ = w4 at HB4 HX4 HY4 ⊢
  have HM4 := Lib.hid (HM1.out.below HB4.out hl1)
  have hl4 := Nat.lt_of_lt_of_le hl1 HB4.out.size
  have hn2 : n < y.G.xs.length := by have h3 := Nst.eqv_len HS.out.g; omega
  have hm2 : m < (it y.G.xs n).xs.length := by
    have h3 : (it y.G.xs n).xs = (it x.G.xs n).xs := (show NEqv x.G.xs y.G.xs from HS.out.g).each n hn
    have h4 := (H1.out.ok.gs n (by rw [ctt_len]; exact hn)).len
    rw [ctt_it] at h4
    have h5 := H1.out.hi
    rw [h3]
    omega
  obtain ⟨U1, U2, hu⟩ := HY4.out
  obtain ⟨bo, oo, b, o, hset⟩ := own_setInt hu.g n m hn2 hm2 v
  have HSET := Lib.hid hset
  have hsb : iv w1.heap.size w2.heap.size b := hu.s1 b hset.mem
  have hbx : b ≠ w2.heap.size := by have := hsb.2; omega
  have hbr : b ≠ w.heap.size + 1 := by have := hsb.1; omega
  obtain ⟨z, hz⟩ : ∃ z : Mr, z = ⟨setQ y.G n m v, y.C⟩ := ⟨_, rfl⟩
  have HZO := Lib.hid (show MrOwn (iv w1.heap.size w2.heap.size) (w4.setCell ⟨b, o + m, none⟩ (.int .i64 v)) z by
    rw [hz]
    exact ⟨U1, U2, hset.own, Nst.own_keep hu.c (only_cell w4 b (o + m) _) (fun i hi e => by subst e; exact hu.d12 i hset.mem hi), hu.s1, hu.s2, hu.d12⟩)
  have HZC := Lib.hid (show ctt z.G = setL (ctt x.G) n m v ∧ ctt z.C = ctt x.C by
    rw [hz]
    exact ⟨by show ctt (setQ y.G n m v) = _; rw [ctt_setQ _ _ _ _ hn2, HS.out.cg], HS.out.cc⟩)
  have HZF := Lib.hid (show MrFits z by
    rw [hz]
    exact ⟨nfit_setQ (HS.out.fits HF.out).g n m v hn2, (HS.out.fits HF.out).c⟩)
  have HZB := Lib.hid (show Mem2 (w4.setCell ⟨b, o + m, none⟩ (.int .i64 v)) w2.heap.size (.slice z.G.A z.G.xs.length z.G.c) (.slice z.C.A z.C.xs.length z.C.c) by
    have h3 := HX4.out.mem.other ⟨b, o + m, none⟩ hbx (.int .i64 v)
    rw [hz]
    show Mem2 _ _ (.slice y.G.A (setQ y.G n m v).xs.length y.G.c) (.slice y.C.A y.C.xs.length y.C.c)
    rw [setQ_len]
    exact h3)
  have HB5 := Lib.hid (show Below w1.heap.size w1 (w4.setCell ⟨b, o + m, none⟩ (.int .i64 v)) from HB4.out.setCell hsb.1 _)
  have HM5 := Lib.hid (HM4.out.other ⟨b, o + m, none⟩ hbr (.int .i64 v))
  have hl5 : w.heap.size + 1 < (w4.setCell ⟨b, o + m, none⟩ (.int .i64 v)).heap.size := by simpa [World.setCell] using hl4
  have HS2 := Lib.hid (show w2.heap.size ≤ (w4.setCell ⟨b, o + m, none⟩ (.int .i64 v)).heap.size by have := HX4.out.lt; simp [World.setCell]; omega)
  have hi1 : (0 : Int) ≤ (n : Int) := by omega
  have hi2 : (n : Int) < (y.G.xs.length : Int) := by omega
  have hj1 : (0 : Int) ≤ (m : Int) := by omega
  have hj2 : (m : Int) < ((it y.G.xs n).xs.length : Int) := by omega
  have hyl : y.G.xs.length ≤ 1048576 := nfit_len (HS.out.fits HF.out).g
  have hyr : (it y.G.xs n).xs.length ≤ 1048576 := nfit_len (nfit_each (HS.out.fits HF.out).g n hn2)
  obtain ⟨b0, b1, bf⟩ := HX4.out.mem
  rw [hset.A] at b0
  have r0 := hset.row
  have d0 := hset.cell
  have f0 := hset.free
  clear hset hu hz HY4 HX4 hbx hbr x0 x1 xf HCO
  go_upto_region 5 with fail
  revert HZO HZB HB5 HM5 hl5 HS2
  clear r0 d0 f0 b0 b1 bf HSET
  generalize World.setCell w4 _ _ = w5
  intro HZO HZB HB5 HM5 hl5 HS2
  obtain ⟨b0, b1, bf⟩ := HZB.out
  go_wp2_with (go_at_call 57; refine (marksIfValid_any z w5 HZO.out.mr HZF.out).mono ?_; rintro e w6 ⟨rfl, hb6⟩; have HA6 := Lib.hid (okMr_ans (w0 := w1) HZO.out hb6 (Nat.le_refl _) HS2.out); have HB6 := Lib.hid (below_next HB5.out hb6); have HN6 := Lib.hid (HM5.out.below hb6 hl5); obtain ⟨m0, m1, mf⟩ := HN6.out; generalize okMr z = u at HA6 ⊢; clear hb6)
  have hn9 := (HN6.out.set0 (.slice u.G.A u.G.xs.length u.G.c)).set1 (.slice u.C.A u.C.xs.length u.C.c)
  have ht : Only (fun i => i = w.heap.size + 1) w6 ((w6.setCell ⟨w.heap.size + 1, 0, none⟩ (.slice u.G.A u.G.xs.length u.G.c)).setCell ⟨w.heap.size + 1, 1, none⟩ (.slice u.C.A u.C.xs.length u.C.c)) := ((Only.refl (fun i => i = w.heap.size + 1) w6).put (w.heap.size + 1) 0 rfl _).put (w.heap.size + 1) 1 rfl _
  clear m0 m1 mf
  obtain ⟨m0, m1, mf⟩ := hn9
  refine bodyPost_ret (v := .tuple #[.agg #[.slice u.G.A u.G.xs.length u.G.c, .slice u.C.A u.C.xs.length u.C.c], .bool (pB (MkL (ctt z.G) (ctt z.C)))]) (by simp [results, Try.results26, go_sem, m0, m1]) rfl ?_
  have hb9 := ht.below (B := w.heap.size) (by have := HB6.out.size; have := HB1.out.size; omega) (fun i hi => by omega)
  have hA := (HA6.out.keep ht (.inl hlw)).from HB1.out.size
  rw [HZC.out.1, HZC.out.2] at hA ⊢
  rw [pIf_iff HOK.out, pIf_iff HOK.out] at hA
  rw [pB_iff HOK.out]
  exact ⟨⟨u, rfl, hA⟩, (below_next HB1.out HB6.out).trans hb9⟩
end Go.Proofs.Ytfeffkjmjkddnaa
