/- A number stored in rows of a call's own; marks if they are valid, of both sides. -/
import Derived.Test.YtfeffkjmjkddnaaMrM
namespace Go.Proofs.Ytfeffkjmjkddnaa
open Go.ChangeShapes Go.WideShapes Go.ChangeAt Go.RowKit Go.Lib Go.Proofs Go.PlainAid
set_option linter.unusedVariables false

def setL (g : List (List Int)) (i j : Nat) (v : Int) : List (List Int) := g.set i ((it g i).set j v)
def setQ (q : Rw (Rw Int)) (i j : Nat) (v : Int) : Rw (Rw Int) := ⟨q.A, q.c, q.xs.set i ⟨(it q.xs i).A, (it q.xs i).c, (it q.xs i).xs.set j v⟩⟩
theorem setQ_len (q : Rw (Rw Int)) (i j : Nat) (v : Int) : (setQ q i j v).xs.length = q.xs.length := by simp [setQ]
theorem setL_len (g : List (List Int)) (i j : Nat) (v : Int) : (setL g i j v).length = g.length := by simp [setL]
theorem setQ_it (q : Rw (Rw Int)) (i j : Nat) (v : Int) (hi : i < q.xs.length) (k : Nat) : it (setQ q i j v).xs k = if k = i then ⟨(it q.xs i).A, (it q.xs i).c, (it q.xs i).xs.set j v⟩ else it q.xs k := it_set _ _ _ _ hi
theorem ctt_setQ (q : Rw (Rw Int)) (i j : Nat) (v : Int) (hi : i < q.xs.length) : ctt (setQ q i j v) = setL (ctt q) i j v := by
  refine it_ext _ _ (by rw [ctt_len, setQ_len, setL_len, ctt_len]) (fun k hk => ?_)
  rw [ctt_it, setQ_it q i j v hi]
  unfold setL
  rw [it_set _ _ _ _ (by rw [ctt_len]; exact hi)]
  by_cases e : k = i
  · rw [if_pos e, if_pos e, ctt_it]
  · rw [if_neg e, if_neg e, ctt_it]
structure SetAt (U : Nat → Prop) (w : World) (q : Rw (Rw Int)) (i j : Nat) (v : Int) (bo oo b o : Nat) : Prop where
  A : q.A = some ⟨bo, oo, none⟩
  row : w.cell? ⟨bo, oo + i, none⟩ = some (.slice (some ⟨b, o, none⟩) (it q.xs i).xs.length (it q.xs i).c)
  cell : w.cell? ⟨b, o + j, none⟩ = some (.int .i64 (it (it q.xs i).xs j))
  free : w.frozen? ⟨b, o + j, none⟩ = false
  mem : U b
  lt : b < w.heap.size
  own : Nst.Own U (w.setCell ⟨b, o + j, none⟩ (.int .i64 v)) (setQ q i j v)
theorem own_setInt {U : Nat → Prop} {w : World} {q : Rw (Rw Int)} (h : Nst.Own U w q) (i j : Nat) (hi : i < q.xs.length) (hj : j < (it q.xs i).xs.length) (v : Int) : ∃ bo oo b o, SetAt U w q i j v bo oo b o := by
  obtain ⟨g, T, h⟩ := h
  obtain ⟨g', oo, hA, rfl, hgs, hout⟩ := h.out (by omega)
  have hrow := hout.rw i hi
  have hR : Owned (T i) w (it q.xs i).A (it q.xs i).xs := h.each i hi
  obtain ⟨b, o, hb, hTb, hbl, hOA⟩ := hR (by omega)
  obtain ⟨c0, f0⟩ := hOA.int j hj
  have hc := hrow.c0
  rw [hb] at hc
  have hbg : b ≠ g' := fun e => h.ne i hi (e ▸ hTb)
  have hon : Only (fun k => k = b) w (w.setCell ⟨b, o + j, none⟩ (.int .i64 v)) := only_cell w b (o + j) _
  refine ⟨g', oo, b, o, hA, hc, c0, f0, h.sT i b hi hTb, hbl, g', T, ?_, fun k hk => ?_, fun k hk => h.ne k (by rw [← setQ_len q i j v]; exact hk), fun k l x hkl hl => h.inj k l x hkl (by rw [← setQ_len q i j v]; exact hl), fun hp => h.sg (by rw [← setQ_len q i j v]; exact hp), fun k x hk => h.sT k x (by rw [← setQ_len q i j v]; exact hk)⟩
  · intro hp
    refine ⟨g', oo, hA, rfl, by simpa [World.setCell] using hgs, (hout.block (hon.block _ hgs (fun e => hbg e.symm))).alike (setQ_len q i j v) (fun k hk => ?_)⟩
    rw [setQ_it q i j v hi]
    by_cases e : k = i
    · rw [if_pos e, e]
      show [Value.slice _ _ _] = [Value.slice _ _ _]
      rw [List.length_set]
    · rw [if_neg e]
  · rw [setQ_len] at hk
    rw [setQ_it q i j v hi]
    by_cases e : k = i
    · rw [if_pos e, e]
      show Owned (T i) _ (it q.xs i).A ((it q.xs i).xs.set j v)
      intro _
      exact ⟨b, o, hb, hTb, by simpa [World.setCell] using hbl, hOA.putInt j v hj⟩
    · rw [if_neg e]
      refine Nst.own_keep (h.each k hk) hon (fun x hx ex => ?_)
      subst ex
      rcases Nat.lt_or_gt_of_ne e with hlt | hlt
      · exact h.inj k i x hlt hi hx hTb
      · exact h.inj i k x hlt hk hTb hx
def nilMr : Mr := ⟨⟨none, 0, []⟩, ⟨none, 0, []⟩⟩
noncomputable def okMr (x : Mr) : Mr := pIf (MkL (ctt x.G) (ctt x.C)) x nilMr
set_option maxHeartbeats 2000000 in
theorem mkIf_any (x : Mr) (w : World) (hr : MrIn w w.heap.size x) (hl : MrFits x) :
    Calls Try.prog 55 #[.agg #[.slice x.G.A x.G.xs.length x.G.c, .slice x.C.A x.C.xs.length x.C.c]] w fun e w' => e = .returned (.tuple #[.agg #[.slice (okMr x).G.A (okMr x).G.xs.length (okMr x).G.c, .slice (okMr x).C.A (okMr x).C.xs.length (okMr x).C.c], .bool (pB (MkL (ctt x.G) (ctt x.C)))]) ∧ Below w.heap.size w w' := by
  have HR := Lib.hid hr
  have HF := Lib.hid hl
  have hg1 := nfit_len hl.g
  clear hr hl
  obtain ⟨W, hW, hB0, hX, hM, hlt⟩ : ∃ W, W = (w.alloc (.cells #[.slice x.G.A x.G.xs.length x.G.c, .slice x.C.A x.C.xs.length x.C.c] 27)).alloc (.cells #[.slice none 0 0, .slice none 0 0] 27) ∧ Below w.heap.size w W ∧ Mem2 W w.heap.size (.slice x.G.A x.G.xs.length x.G.c) (.slice x.C.A x.C.xs.length x.C.c) ∧ Mem2 W (w.heap.size + 1) (.slice none 0 0) (.slice none 0 0) ∧ w.heap.size + 1 < W.heap.size :=
    ⟨_, rfl, below_next (below_alloc _ _) (below_alloc _ _), (mem2_new w _ _ rfl _ _).below (below_alloc _ _) (by simp), mem2_new _ _ _ (by simp) _ _, by simp⟩
  have HB0 := Lib.hid hB0
  have HX := Lib.hid hX
  have HM := Lib.hid hM
  have HC := Lib.hid (mkAll_any x W (HR.out.next hB0) HF.out)
  clear hB0 hX hM
  unfold Mr.val at HC
  obtain ⟨a0, a1, af⟩ := HX.out
  rw [hW] at a0 a1
  go_enter Try.func55, Try.ntmps55
  go_wp2_with fail
  rw [← hW]
  clear hW a0 a1 af
  by_cases h1 : MkL (ctt x.G) (ctt x.C)
  · rw [pB_yes h1] at HC
    have HK := Lib.hid h1
    clear h1
    refine HC.out.mono ?_
    rintro e w1 ⟨rfl, hb1⟩
    have HB1 := Lib.hid (below_next HB0.out hb1)
    have hn := (HM.out.below hb1 hlt)
    have hx := (HX.out.below hb1 (by omega))
    have hn9 := (hn.set0 (.slice x.G.A x.G.xs.length x.G.c)).set1 (.slice x.C.A x.C.xs.length x.C.c)
    have hb9 := (HB1.out.setCell (p := ⟨w.heap.size + 1, 0, none⟩) (Nat.le_succ _) (.slice x.G.A x.G.xs.length x.G.c)).setCell (p := ⟨w.heap.size + 1, 1, none⟩) (Nat.le_succ _) (.slice x.C.A x.C.xs.length x.C.c)
    have HN9 := Lib.hid hn9
    have HB9 := Lib.hid hb9
    clear hb1 hn9 hb9
    obtain ⟨n0, n1, nf⟩ := hn
    obtain ⟨x0, x1, xf⟩ := hx
    have e2 : (w.heap.size = w.heap.size + 1) = False := by simp
    have e3 : (w.heap.size + 1 = w.heap.size) = False := by simp
    go_wp2_with fail
    clear n0 n1 nf x0 x1 xf
    obtain ⟨m0, m1, mf⟩ := HN9.out
    refine bodyPost_ret (v := .tuple #[.agg #[.slice x.G.A x.G.xs.length x.G.c, .slice x.C.A x.C.xs.length x.C.c], .bool true]) (by simp [results, Try.results55, go_sem, m0, m1]) rfl ?_
    rw [pB_yes HK.out, show okMr x = x from pIf_yes HK.out]
    exact ⟨rfl, HB9.out⟩
  · rw [pB_no h1] at HC
    have HK := Lib.hid h1
    clear h1
    refine HC.out.mono ?_
    rintro e w1 ⟨rfl, hb1⟩
    have HB1 := Lib.hid (below_next HB0.out hb1)
    have hn := (HM.out.below hb1 hlt)
    have hn9 := (hn.set0 (.slice none 0 0)).set1 (.slice none 0 0)
    have hb9 := (HB1.out.setCell (p := ⟨w.heap.size + 1, 0, none⟩) (Nat.le_succ _) (.slice none 0 0)).setCell (p := ⟨w.heap.size + 1, 1, none⟩) (Nat.le_succ _) (.slice none 0 0)
    have HN9 := Lib.hid hn9
    have HB9 := Lib.hid hb9
    clear hb1 hn9 hb9
    obtain ⟨n0, n1, nf⟩ := hn
    go_wp2_with fail
    clear n0 n1 nf
    obtain ⟨m0, m1, mf⟩ := HN9.out
    refine bodyPost_ret (v := .tuple #[.agg #[.slice none 0 0, .slice none 0 0], .bool false]) (by simp [results, Try.results55, go_sem, m0, m1]) rfl ?_
    rw [pB_no HK.out, show okMr x = nilMr from pIf_no HK.out]
    exact ⟨rfl, HB9.out⟩
set_option maxHeartbeats 2000000 in
theorem marksIfValid_any (x : Mr) (w : World) (hr : MrIn w w.heap.size x) (hl : MrFits x) :
    Calls Try.prog 57 #[.agg #[.slice x.G.A x.G.xs.length x.G.c, .slice x.C.A x.C.xs.length x.C.c]] w fun e w' => e = .returned (.tuple #[.agg #[.slice (okMr x).G.A (okMr x).G.xs.length (okMr x).G.c, .slice (okMr x).C.A (okMr x).C.xs.length (okMr x).C.c], .bool (pB (MkL (ctt x.G) (ctt x.C)))]) ∧ Below w.heap.size w w' := by
  have HR := Lib.hid hr
  have HF := Lib.hid hl
  have hg1 := nfit_len hl.g
  have HNN := Lib.hid (show pB (MkN (ctt x.G) (ctt x.C) x.G.xs.length) = pB (MkL (ctt x.G) (ctt x.C)) from pB_iff ⟨fun h => h.ok, fun h => ⟨h, by rw [ctt_len]⟩⟩)
  clear hr hl
  obtain ⟨W, hW, hB0, hX, hM, hlt⟩ : ∃ W, W = (w.alloc (.cells #[.slice x.G.A x.G.xs.length x.G.c, .slice x.C.A x.C.xs.length x.C.c] 27)).alloc (.cells #[.slice none 0 0, .slice none 0 0] 27) ∧ Below w.heap.size w W ∧ Mem2 W w.heap.size (.slice x.G.A x.G.xs.length x.G.c) (.slice x.C.A x.C.xs.length x.C.c) ∧ Mem2 W (w.heap.size + 1) (.slice none 0 0) (.slice none 0 0) ∧ w.heap.size + 1 < W.heap.size :=
    ⟨_, rfl, below_next (below_alloc _ _) (below_alloc _ _), (mem2_new w _ _ rfl _ _).below (below_alloc _ _) (by simp), mem2_new _ _ _ (by simp) _ _, by simp⟩
  have HB0 := Lib.hid hB0
  have HX := Lib.hid hX
  have HM := Lib.hid hM
  have HC := Lib.hid (show Calls Try.prog 15 _ _ fun e w' => e = .returned (.bool (pB (MkL (ctt x.G) (ctt x.C)))) ∧ _ from (by have h := iAreMarks_any x (x.G.xs.length : Int) W (HR.out.next hB0) HF.out; rw [HNN.out] at h; exact h))
  clear hB0 hX hM
  unfold Mr.val at HC
  obtain ⟨a0, a1, af⟩ := HX.out
  rw [hW] at a0 a1
  go_enter Try.func57, Try.ntmps57
  go_wp2_with fail
  rw [← hW]
  clear hW a0 a1 af
  by_cases h1 : MkL (ctt x.G) (ctt x.C)
  · rw [pB_yes h1] at HC
    have HK := Lib.hid h1
    clear h1
    refine HC.out.mono ?_
    rintro e w1 ⟨rfl, hb1⟩
    have HB1 := Lib.hid (below_next HB0.out hb1)
    have hn := (HM.out.below hb1 hlt)
    have hx := (HX.out.below hb1 (by omega))
    have hn9 := (hn.set0 (.slice x.G.A x.G.xs.length x.G.c)).set1 (.slice x.C.A x.C.xs.length x.C.c)
    have hb9 := (HB1.out.setCell (p := ⟨w.heap.size + 1, 0, none⟩) (Nat.le_succ _) (.slice x.G.A x.G.xs.length x.G.c)).setCell (p := ⟨w.heap.size + 1, 1, none⟩) (Nat.le_succ _) (.slice x.C.A x.C.xs.length x.C.c)
    have HN9 := Lib.hid hn9
    have HB9 := Lib.hid hb9
    clear hb1 hn9 hb9
    obtain ⟨n0, n1, nf⟩ := hn
    obtain ⟨x0, x1, xf⟩ := hx
    have e2 : (w.heap.size = w.heap.size + 1) = False := by simp
    have e3 : (w.heap.size + 1 = w.heap.size) = False := by simp
    go_wp2_with fail
    clear n0 n1 nf x0 x1 xf
    obtain ⟨m0, m1, mf⟩ := HN9.out
    refine bodyPost_ret (v := .tuple #[.agg #[.slice x.G.A x.G.xs.length x.G.c, .slice x.C.A x.C.xs.length x.C.c], .bool true]) (by simp [results, Try.results57, go_sem, m0, m1]) rfl ?_
    rw [pB_yes HK.out, show okMr x = x from pIf_yes HK.out]
    exact ⟨rfl, HB9.out⟩
  · rw [pB_no h1] at HC
    have HK := Lib.hid h1
    clear h1
    refine HC.out.mono ?_
    rintro e w1 ⟨rfl, hb1⟩
    have HB1 := Lib.hid (below_next HB0.out hb1)
    have hn := (HM.out.below hb1 hlt)
    have hn9 := (hn.set0 (.slice none 0 0)).set1 (.slice none 0 0)
    have hb9 := (HB1.out.setCell (p := ⟨w.heap.size + 1, 0, none⟩) (Nat.le_succ _) (.slice none 0 0)).setCell (p := ⟨w.heap.size + 1, 1, none⟩) (Nat.le_succ _) (.slice none 0 0)
    have HN9 := Lib.hid hn9
    have HB9 := Lib.hid hb9
    clear hb1 hn9 hb9
    obtain ⟨n0, n1, nf⟩ := hn
    go_wp2_with fail
    clear n0 n1 nf
    obtain ⟨m0, m1, mf⟩ := HN9.out
    refine bodyPost_ret (v := .tuple #[.agg #[.slice none 0 0, .slice none 0 0], .bool false]) (by simp [results, Try.results57, go_sem, m0, m1]) rfl ?_
    rw [pB_no HK.out, show okMr x = nilMr from pIf_no HK.out]
    exact ⟨rfl, HB9.out⟩
end Go.Proofs.Ytfeffkjmjkddnaa
