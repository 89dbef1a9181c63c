/- SwapJudges, of both sides. -/
import Derived.Test.YtfeffkjmjkddnaaMrV
import Derived.Deep.Cut
namespace Go.Proofs.Ytfeffkjmjkddnaa
open Go.ChangeShapes Go.WideShapes Go.ChangeAt Go.RowKit Go.Lib Go.Proofs Go.PlainAid
set_option linter.unusedVariables false

theorem two_lst (w : World) (p q : Rw (Rw Int)) (t : TypeId) : Lst (w.alloc (.cells #[.slice p.A p.xs.length p.c, .slice q.A q.xs.length q.c] t)) (w.heap.size + 1) (some ⟨w.heap.size, 0, none⟩) [p, q] := fun _ => by
  refine ⟨w.heap.size, 0, rfl, Nat.lt_succ_self _, fun i hi j v hv => ?_⟩
  have hi' : i < 2 := hi
  match j, hv with
  | 0, hv =>
    rcases (show i = 0 ∨ i = 1 by omega) with rfl | rfl
    · obtain rfl := Option.some.inj hv
      simp [Flat.sz]
      exact ⟨rfl, rfl, rfl⟩
    · obtain rfl := Option.some.inj hv
      simp [Flat.sz]
      exact ⟨rfl, rfl, rfl⟩
theorem cat_two (p q : Rw (Rw Int)) : catR [p, q] 2 = p.xs ++ q.xs := by
  show ([] ++ p.xs) ++ q.xs = _
  rw [List.nil_append]
theorem it_left {α : Type} [Inhabited α] (l m : List α) (t : Nat) (h : t < l.length) : it (l ++ m) t = it l t := by
  unfold it
  rw [List.getD_eq_getElem?_getD, List.getD_eq_getElem?_getD, List.getElem?_append_left h]
theorem it_right {α : Type} [Inhabited α] (l m : List α) (t : Nat) (h : l.length ≤ t) : it (l ++ m) t = it m (t - l.length) := by
  unfold it
  rw [List.getD_eq_getElem?_getD, List.getD_eq_getElem?_getD, List.getElem?_append_right h]
set_option maxHeartbeats 8000000 in
set_option maxRecDepth 20000 in
theorem sSwapJudges_any (x : Mr) (a b : Int) (w : World) (hr : MrIn w w.heap.size x) (hl : MrFits x) :
    Calls Try.prog 35 #[x.val, .int .i64 a, .int .i64 b] w fun e w' => (∃ y : Mr, e = .returned (.tuple #[.agg #[.slice y.G.A y.G.xs.length y.G.c, .slice y.C.A y.C.xs.length y.C.c], .bool (pB (SwOk (ctt x.G) (ctt x.C) a b))]) ∧ MrAns (swG (ctt x.G) (ctt x.C) a b) (swC (ctt x.G) (ctt x.C) a b) w w' y) ∧ Below w.heap.size w w' := by
  have HR := Lib.hid hr
  have HF := Lib.hid hl
  have hg1 := nfit_len hl.g
  have hc1 := nfit_len hl.c
  clear hr hl
  unfold Mr.val
  obtain ⟨W, hW, hB0, hX, hM, hlt⟩ : ∃ W, W = (w.alloc (.cells #[.slice x.G.A x.G.xs.length x.G.c, .slice x.C.A x.C.xs.length x.C.c] 27)).alloc (.cells #[.slice none 0 0, .slice none 0 0] 27) ∧ Below w.heap.size w W ∧ Mem2 W w.heap.size (.slice x.G.A x.G.xs.length x.G.c) (.slice x.C.A x.C.xs.length x.C.c) ∧ Mem2 W (w.heap.size + 1) (.slice none 0 0) (.slice none 0 0) ∧ w.heap.size + 1 < W.heap.size :=
    ⟨_, rfl, below_next (below_alloc _ _) (below_alloc _ _), (mem2_new w _ _ rfl _ _).below (below_alloc _ _) (by simp), mem2_new _ _ _ (by simp) _ _, by simp⟩
  have HB0 := Lib.hid hB0
  have HX := Lib.hid hX
  have HM := Lib.hid hM
  have HCa := Lib.hid (mkHas_any x a W (HR.out.next hB0) HF.out)
  have HCb := Lib.hid (fun w' hr' => mkHas_any x b w' hr' HF.out)
  clear hB0 hX hM
  unfold Mr.val at HCa HCb
  obtain ⟨a0, a1, af⟩ := HX.out
  rw [hW] at a0 a1
  go_enter Try.func35, Try.ntmps35
  go_wp2_with fail
  rw [← hW]
  clear hW a0 a1 af
  by_cases h1 : MkHas (ctt x.G) (ctt x.C) a
  rotate_left
  · rw [pB_no h1] at HCa
    have HNO := Lib.hid (fun q : SwOk (ctt x.G) (ctt x.C) a b => h1 q.a)
    clear h1
    refine HCa.out.mono ?_
    rintro e w1 ⟨rfl, hb1⟩
    have HB1 := Lib.hid (below_next HB0.out hb1)
    have hn := HM.out.below hb1 hlt
    have HN9 := Lib.hid ((hn.set0 (.slice none 0 0)).set1 (.slice none 0 0))
    have HB9 := Lib.hid ((HB1.out.setCell (p := ⟨w.heap.size + 1, 0, none⟩) (Nat.le_succ _) (.slice none 0 0)).setCell (p := ⟨w.heap.size + 1, 1, none⟩) (Nat.le_succ _) (.slice none 0 0))
    clear hb1
    obtain ⟨n0, n1, nf⟩ := hn
    go_wp2_with fail
    clear n0 n1 nf
    obtain ⟨m0, m1, mf⟩ := HN9.out
    refine bodyPost_ret (v := .tuple #[.agg #[.slice none 0 0, .slice none 0 0], .bool false]) (by simp [results, Try.results35, go_sem, m0, m1]) rfl ?_
    rw [pB_no HNO.out, (sw_no HNO.out).1, (sw_no HNO.out).2]
    exact ⟨⟨nilMr, rfl, mrAns_nil _ _⟩, HB9.out⟩
  rw [pB_yes h1] at HCa
  have H1 := Lib.hid h1
  clear h1
  refine HCa.out.mono ?_
  rintro e w1 ⟨rfl, hb1⟩
  have HB1 := Lib.hid (below_next HB0.out hb1)
  have HM1 := Lib.hid (HM.out.below hb1 hlt)
  have hl1 := Nat.lt_of_lt_of_le hlt hb1.size
  have HX1 := Lib.hid (HX.out.below hb1 (by omega))
  have HCb1 := Lib.hid (HCb.out w1 (HR.out.next HB1.out))
  clear hb1 HCa HCb HB0 HX HM hlt
  obtain ⟨x0, x1, xf⟩ := HX1.out
  by_cases h1 : MkHas (ctt x.G) (ctt x.C) b
  rotate_left
  · rw [pB_no h1] at HCb1
    have HNO := Lib.hid (fun q : SwOk (ctt x.G) (ctt x.C) a b => h1 q.b)
    clear h1
    go_wp2_with (go_at_call 48; refine HCb1.out.mono ?_; rintro e w2 ⟨rfl, hb2⟩; have HB2 := Lib.hid (below_next HB1.out hb2); have hn := HM1.out.below hb2 hl1; have HN9 := Lib.hid ((hn.set0 (.slice none 0 0)).set1 (.slice none 0 0)); have HB9 := Lib.hid ((HB2.out.setCell (p := ⟨w.heap.size + 1, 0, none⟩) (Nat.le_succ _) (.slice none 0 0)).setCell (p := ⟨w.heap.size + 1, 1, none⟩) (Nat.le_succ _) (.slice none 0 0)); obtain ⟨n0, n1, nf⟩ := hn; clear hb2)
    clear n0 n1 nf
    obtain ⟨m0, m1, mf⟩ := HN9.out
    refine bodyPost_ret (v := .tuple #[.agg #[.slice none 0 0, .slice none 0 0], .bool false]) (by simp [results, Try.results35, go_sem, m0, m1]) rfl ?_
    rw [pB_no HNO.out, (sw_no HNO.out).1, (sw_no HNO.out).2]
    exact ⟨⟨nilMr, rfl, mrAns_nil _ _⟩, HB9.out⟩
  rw [pB_yes h1] at HCb1
  have H2 := Lib.hid h1
  clear h1
  obtain ⟨p, rfl⟩ : ∃ m : Nat, a = (m : Int) := ⟨a.toNat, by have := H1.out.lo; omega⟩
  obtain ⟨q, rfl⟩ : ∃ m : Nat, b = (m : Int) := ⟨b.toNat, by have := H2.out.lo; omega⟩
  have HPQ := Lib.hid (show p < jgs (ctt x.C) ∧ q < jgs (ctt x.C) by have := H1.out.hi; have := H2.out.hi; omega)
  have HOK := Lib.hid (show SwOk (ctt x.G) (ctt x.C) p q from ⟨H1.out, H2.out⟩)
  have HCO := Lib.hid (fun w' hr' => mkOwn_any x w' hr' HF.out H1.out.ok)
  unfold Mr.val at HCO
  go_upto_region 4 with (first
    | (go_at_call 48; refine HCb1.out.mono ?_; rintro e w2 ⟨rfl, hb2⟩; have HB2 := Lib.hid (below_next HB1.out hb2); have HM2 := Lib.hid (HM1.out.below hb2 hl1); have hl2 := Nat.lt_of_lt_of_le hl1 hb2.size; have HX2 := Lib.hid (HX1.out.below hb2 (by omega)); clear x0 x1 xf hb2; obtain ⟨x0, x1, xf⟩ := HX2.out)
    | (go_at_call 54; refine (HCO.out w2 (HR.out.next HB2.out)).mono ?_; rintro e w3 ⟨⟨y, rfl, hs, hy⟩, hb3⟩; have HS := Lib.hid hs; have HY := Lib.hid hy; have HB3 := Lib.hid hb3; clear hs hy hb3))
  have HB4 := Lib.hid (below_next HB3.out (below_alloc w3 (.cells #[.slice y.G.A y.G.xs.length y.G.c, .slice y.C.A y.C.xs.length y.C.c] 27)))
  have HX4 := Lib.hid (mrBox_new w3 27 y)
  have HY4 := Lib.hid (HY.out.next (below_alloc w3 (.cells #[.slice y.G.A y.G.xs.length y.G.c, .slice y.C.A y.C.xs.length y.C.c] 27)))
  generalize World.alloc w3 _ = w4 at HB4 HX4 HY4 ⊢
  have HM4 := Lib.hid (HM2.out.below HB4.out hl2)
  have HLen := Lib.hid (show (∀ i, i < y.G.xs.length → (it y.G.xs i).xs.length = jgs (ctt x.C)) ∧ (∀ i, i < y.C.xs.length → (it y.C.xs i).xs.length = jgs (ctt x.C)) ∧ y.G.xs.length ≤ 14 ∧ y.C.xs.length = 3 from by
    have hg := HS.out.cg
    have hc := HS.out.cc
    refine ⟨fun i hi => ?_, fun i hi => ?_, ?_, ?_⟩
    · rw [← ctt_it, hg]
      exact (H1.out.ok.gs i (by rw [← hg, ctt_len]; exact hi)).len
    · rw [← ctt_it, hc]
      exact (H1.out.ok.cs i (by rw [← hc, ctt_len]; exact hi)).len
    · rw [← ctt_len, hg]
      exact H1.out.ok.few
    · rw [← ctt_len, hc]
      exact H1.out.ok.three)
  obtain ⟨U1, U2, hu⟩ := HY4.out
  have HU := Lib.hid hu
  have HU1 := Lib.hid (show Nst.Own U1 w4 (swpQ y.G p q 0) by rw [swpQ_0]; exact hu.g)
  have HU2 := Lib.hid (show Nst.Own U2 w4 (swpQ y.C p q 0) by rw [swpQ_0]; exact hu.c)
  have hq1 : (0 : Int) ≤ (p : Int) := by omega
  have hq2 : (0 : Int) ≤ (q : Int) := by omega
  clear hu HY4 x0 x1 xf HCO HCb1 HX1
  obtain ⟨b0, b1, bf⟩ := HX4.out.mem
  go_wp2_with fail
  clear b0 b1 bf
  have HBW := Lib.hid (below_alloc w4 (.cells #[.slice y.G.A y.G.xs.length y.G.c, .slice y.C.A y.C.xs.length y.C.c] 22))
  have HPA := Lib.hid (mem2_new w4 _ 22 rfl (.slice y.G.A y.G.xs.length y.G.c) (.slice y.C.A y.C.xs.length y.C.c))
  have hpl : w4.heap.size < (w4.alloc (.cells #[.slice y.G.A y.G.xs.length y.G.c, .slice y.C.A y.C.xs.length y.C.c] 22)).heap.size := by simp
  generalize World.alloc w4 _ = w5 at HBW HPA hpl ⊢
  have HV1 := Lib.hid (Nst.keepB HU1.out HBW.out)
  have HV2 := Lib.hid (Nst.keepB HU2.out HBW.out)
  have hy14 := HLen.out.2.2.1
  have hy3 : y.C.xs.length ≤ 3 := by have := HLen.out.2.2.2; omega
  go_loopw [33] (fun i wr => ∃ k : Nat, k ≤ 2 ∧ i = .int .i64 k ∧ Hid (Nst.Own U1 wr (swpQ y.G p q (if k = 0 then 0 else y.G.xs.length))) ∧ Hid (Nst.Own U2 wr (swpQ y.C p q (if k ≤ 1 then 0 else y.C.xs.length))) ∧ Hid (Only (iv w2.heap.size w3.heap.size) w5 wr)) (fun i _ => 2 - (intOf i).toNat)
  case atStart => exact ⟨0, Nat.zero_le _, rfl, HV1, HV2, Lib.hid (Only.refl _ _)⟩
  case round =>
    obtain ⟨k, hk, rfl, HA1, HA2, HON⟩ := hrel
    by_cases hlt : k < 2
    · have hpa := HPA.out.only HON.out hpl (fun hi => by have := hi.2; have := HX4.out.lt; omega)
      obtain ⟨d0, d1, df⟩ := hpa
      rcases (show k = 0 ∨ k = 1 by omega) with rfl | rfl
      · have HA1' : Hid (Nst.Own U1 wr (swpQ y.G p q 0)) := Lib.hid (by simpa using HA1.out)
        have HA2' : Hid (Nst.Own U2 wr (swpQ y.C p q 0)) := Lib.hid (by simpa using HA2.out)
        go_wp2_with fail
        clear d0 d1 df
        obtain ⟨wo, hwo⟩ : ∃ wo : World, wo = wr := ⟨_, rfl⟩
        rw [← hwo] at HON HA1' HA2' HA1 HA2
        subst hwo
        go_loopw [39] (fun i w6 => ∃ j : Nat, j ≤ y.G.xs.length ∧ i = .int .i64 j ∧ Hid (Nst.Own U1 w6 (swpQ y.G p q j)) ∧ Hid (Nst.Own U2 w6 (swpQ y.C p q 0)) ∧ Hid (Only (iv w2.heap.size w3.heap.size) w5 w6)) (fun i _ => y.G.xs.length - (intOf i).toNat)
        case atStart => exact ⟨0, Nat.zero_le _, rfl, HA1', HA2', HON⟩
        case round =>
          obtain ⟨j, hj, rfl, HI1, HI2, HO6⟩ := hrel
          by_cases hjl : j < y.G.xs.length
          · obtain ⟨b', o', hA', hbl', hc'⟩ := mr_cell (Nst.own_in HI1.out) (by rw [swpQ_len]; omega)
            have hck := hc' j (by rw [swpQ_len]; exact hjl)
            rw [swpQ_it y.G p q j j hjl, if_neg (Nat.lt_irrefl j)] at hck
            have hrl := HLen.out.1 j hjl
            obtain ⟨g, o, hsw⟩ := own_swap HI1.out hjl (by have := HPQ.out; omega) (by have := HPQ.out; omega)
            have HSW := Lib.hid hsw
            have hAy : y.G.A = some ⟨b', o', none⟩ := hA'
            rw [hAy]
            rw [hsw.A] at hck
            have ca := hsw.ca
            have fa := hsw.fa
            have cb := hsw.cb
            have cb2 := hsw.cb2
            have fb2 := hsw.fb2
            have hp2 : (p : Int) < ((it y.G.xs j).xs.length : Int) := by have := HPQ.out; omega
            have hq3 : (q : Int) < ((it y.G.xs j).xs.length : Int) := by have := HPQ.out; omega
            have hrl9 : (it y.G.xs j).xs.length ≤ 9 := by have := H1.out.ok.j9; omega
            clear hc' hA' hsw hAy
            go_wp2
            have hsw := HSW.out
            go_roundw
            case rel => exact ⟨j + 1, by omega, by go_num, Lib.hid hsw.own, Lib.hid (Nst.own_keep HI2.out hsw.only (fun i hi e => by subst e; exact HU.out.d12 i hsw.mem hi)), Lib.hid (HO6.out.trans (hsw.only.mono (fun i e => by subst e; exact HU.out.s1 i hsw.mem)))⟩
            case measure => simp [intOf]; omega
          · obtain rfl : j = y.G.xs.length := by omega
            go_wp2
            go_roundw
            case rel => exact ⟨1, by omega, by go_num, (by simpa using HI1), (by simpa using HI2), HO6⟩
            case measure => simp [intOf]
      · have HA1' : Hid (Nst.Own U1 wr (swpQ y.G p q y.G.xs.length)) := Lib.hid (by simpa using HA1.out)
        have HA2' : Hid (Nst.Own U2 wr (swpQ y.C p q 0)) := Lib.hid (by simpa using HA2.out)
        go_wp2_with fail
        clear d0 d1 df
        obtain ⟨wo, hwo⟩ : ∃ wo : World, wo = wr := ⟨_, rfl⟩
        rw [← hwo] at HON HA1' HA2' HA1 HA2
        subst hwo
        go_loopw [39] (fun i w6 => ∃ j : Nat, j ≤ y.C.xs.length ∧ i = .int .i64 j ∧ Hid (Nst.Own U1 w6 (swpQ y.G p q y.G.xs.length)) ∧ Hid (Nst.Own U2 w6 (swpQ y.C p q j)) ∧ Hid (Only (iv w2.heap.size w3.heap.size) w5 w6)) (fun i _ => y.C.xs.length - (intOf i).toNat)
        case atStart => exact ⟨0, Nat.zero_le _, rfl, HA1', HA2', HON⟩
        case round =>
          obtain ⟨j, hj, rfl, HI1, HI2, HO6⟩ := hrel
          by_cases hjl : j < y.C.xs.length
          · obtain ⟨b', o', hA', hbl', hc'⟩ := mr_cell (Nst.own_in HI2.out) (by rw [swpQ_len]; omega)
            have hck := hc' j (by rw [swpQ_len]; exact hjl)
            rw [swpQ_it y.C p q j j hjl, if_neg (Nat.lt_irrefl j)] at hck
            have hrl := HLen.out.2.1 j hjl
            obtain ⟨g, o, hsw⟩ := own_swap HI2.out hjl (by have := HPQ.out; omega) (by have := HPQ.out; omega)
            have HSW := Lib.hid hsw
            have hAy : y.C.A = some ⟨b', o', none⟩ := hA'
            rw [hAy]
            rw [hsw.A] at hck
            have ca := hsw.ca
            have fa := hsw.fa
            have cb := hsw.cb
            have cb2 := hsw.cb2
            have fb2 := hsw.fb2
            have hp2 : (p : Int) < ((it y.C.xs j).xs.length : Int) := by have := HPQ.out; omega
            have hq3 : (q : Int) < ((it y.C.xs j).xs.length : Int) := by have := HPQ.out; omega
            have hrl9 : (it y.C.xs j).xs.length ≤ 9 := by have := H1.out.ok.j9; omega
            clear hc' hA' hsw hAy
            go_wp2
            have hsw := HSW.out
            go_roundw
            case rel => exact ⟨j + 1, by omega, by go_num, Lib.hid (Nst.own_keep HI1.out hsw.only (fun i hi e => by subst e; exact HU.out.d12 i hi hsw.mem)), Lib.hid hsw.own, Lib.hid (HO6.out.trans (hsw.only.mono (fun i e => by subst e; exact HU.out.s2 i hsw.mem)))⟩
            case measure => simp [intOf]; omega
          · obtain rfl : j = y.C.xs.length := by omega
            go_wp2
            go_roundw
            case rel => exact ⟨2, by omega, by go_num, (by simpa using HI1), (by simpa using HI2), HO6⟩
            case measure => simp [intOf]
    · obtain rfl : k = 2 := by omega
      have HF1 : Hid (Nst.Own U1 wr (swpQ y.G p q y.G.xs.length)) := Lib.hid (by simpa using HA1.out)
      have HF2 : Hid (Nst.Own U2 wr (swpQ y.C p q y.C.xs.length)) := Lib.hid (by simpa using HA2.out)
      have HNo := Lib.hid (HON.out.mono (T := iv w2.heap.size w3.heap.size) (fun i hi => hi))
      have hx3 := HX4.out.lt
      have hsz3 := HB3.out.size
      have HXe := Lib.hid ((HX4.out.mem.below HBW.out HX4.out.lt).only HON.out (Nat.lt_of_lt_of_le HX4.out.lt HBW.out.size) (fun hi => Nat.lt_irrefl _ hi.2))
      have HMe := Lib.hid ((HM4.out.below HBW.out (Nat.lt_of_lt_of_le hl2 HB4.out.size)).only HON.out (Nat.lt_of_lt_of_le (Nat.lt_of_lt_of_le hl2 HB4.out.size) HBW.out.size) (fun hi => Nat.not_lt_of_le hi.1 hl2))
      have HBe := Lib.hid (show Below w2.heap.size w2 wr from (below_next HB4.out HBW.out).trans (HON.out.below (by have := HB4.out.size; have := HBW.out.size; omega) (fun i hi => hi.1)))
      have e2 : (w3.heap.size = w.heap.size + 1) = False := by simp; omega
      have e3 : (w.heap.size + 1 = w3.heap.size) = False := by simp; omega
      obtain ⟨n0, n1, nf⟩ := HXe.out
      obtain ⟨m0, m1, mf⟩ := HMe.out
      go_wp2_with fail
      clear n0 n1 nf m0 m1 mf
      have hn9 := (HMe.out.set0 (.slice y.G.A y.G.xs.length y.G.c)).set1 (.slice y.C.A y.C.xs.length y.C.c)
      have ht : Only (fun i => i = w.heap.size + 1) wr ((wr.setCell ⟨w.heap.size + 1, 0, none⟩ (.slice y.G.A y.G.xs.length y.G.c)).setCell ⟨w.heap.size + 1, 1, none⟩ (.slice y.C.A y.C.xs.length y.C.c)) := ((Only.refl (fun i => i = w.heap.size + 1) wr).put (w.heap.size + 1) 0 rfl _).put (w.heap.size + 1) 1 rfl _
      obtain ⟨m0, m1, mf⟩ := hn9
      refine bodyPost_ret (v := .tuple #[.agg #[.slice y.G.A y.G.xs.length y.G.c, .slice y.C.A y.C.xs.length y.C.c], .bool true]) (by simp [results, Try.results35, go_sem, m0, m1]) rfl ?_
      have hb9 := ht.below (B := w.heap.size) (by have := HBe.out.size; have := HB2.out.size; omega) (fun i hi => by omega)
      have hA : MrAns ((ctt y.G).map (swpL p q)) ((ctt y.C).map (swpL p q)) w2 wr ⟨swpQ y.G p q y.G.xs.length, swpQ y.C p q y.C.xs.length⟩ := ⟨⟨U1, U2, HF1.out, HF2.out, fun i hi => ⟨(HU.out.s1 i hi).1, Nat.lt_of_lt_of_le (HU.out.s1 i hi).2 (by have := HB4.out.size; have := HBe.out.size; have := HON.out.size; have := HBW.out.size; omega)⟩, fun i hi => ⟨(HU.out.s2 i hi).1, Nat.lt_of_lt_of_le (HU.out.s2 i hi).2 (by have := HB4.out.size; have := HON.out.size; have := HBW.out.size; omega)⟩, HU.out.d12⟩, swpQ_ctt _ _ _ _ (Nat.le_refl _), swpQ_ctt _ _ _ _ (Nat.le_refl _)⟩
      have hA2 := (hA.keep ht (.inl hl2)).from HB2.out.size
      rw [HS.out.cg, HS.out.cc] at hA2
      rw [pB_yes HOK.out, (sw_yes HOK.out).1, (sw_yes HOK.out).2, Int.toNat_natCast, Int.toNat_natCast]
      refine ⟨⟨_, ?_, hA2⟩, (below_next HB2.out HBe.out).trans hb9⟩
      show Ending.returned (.tuple #[.agg #[.slice y.G.A _ y.G.c, .slice y.C.A _ y.C.c], _]) = Ending.returned (.tuple #[.agg #[.slice y.G.A _ y.G.c, .slice y.C.A _ y.C.c], _])
      rw [swpQ_len, swpQ_len]
end Go.Proofs.Ytfeffkjmjkddnaa
