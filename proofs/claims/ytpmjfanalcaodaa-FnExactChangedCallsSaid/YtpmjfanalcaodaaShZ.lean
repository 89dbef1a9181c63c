/- Two sheets: which calls have changed; in the program. -/
import Derived.Test.YtpmjfanalcaodaaShY
import Derived.Test.YtpmjfanalcaodaaItemS
namespace Go.Proofs.Ytpmjfanalcaodaa
open Go.ChangeShapes Go.WideShapes Go.ChangeAt Go.RowKit Go.Lib Go.Proofs
set_option linter.unusedVariables false

structure ChOk (x y : Sh) : Prop where
  a : ShOk x
  b : ShOk y
  nm : SameN x.l y.l
def chD (x y : Sh) (i j : Nat) : Bool := decide (caI x i j ≠ caI y i j)
noncomputable def chL (x y : Sh) : List (List Int) := @ite _ (ChOk x y) (Classical.propDecidable _) (plI (nmN x.l) (chD x y) x.l.length) []
theorem chL_yes {x y : Sh} (h : ChOk x y) : chL x y = plI (nmN x.l) (chD x y) x.l.length := @if_pos _ (Classical.propDecidable _) h _ _ _
theorem chL_no {x y : Sh} (h : ¬ ChOk x y) : chL x y = [] := @if_neg _ (Classical.propDecidable _) h _ _ _
theorem SameN.same {a b c d : List Im} (h : SameS a c) (k : SameS b d) (q : SameN a b) : SameN c d :=
  ⟨by rw [h.len, k.len]; exact q.len, fun i hi => by
    have h1 := h.len
    have h2 := q.len
    rw [(h.each i (by omega)).ns, (k.each i (by omega)).ns]
    exact q.each i (by omega)⟩
theorem ChOk.same {a b c d : Sh} (h : ShSame a c) (k : ShSame b d) (q : ChOk a b) : ChOk c d := ⟨q.a.same h, q.b.same k, q.nm.same h.its k.its⟩
theorem chOk_same {a b c d : Sh} (h : ShSame a c) (k : ShSame b d) : pB (ChOk a b) = pB (ChOk c d) := pB_iff ⟨fun q => q.same h k, fun q => q.same h.symm k.symm⟩
theorem chL_same {a b c d : Sh} (h : ShSame a c) (k : ShSame b d) : chL c d = chL a b := by
  by_cases q : ChOk a b
  · rw [chL_yes q, chL_yes (q.same h k), h.its.len]
    exact plI_congr _ (fun i hi => nmN_same h.its hi) (fun i j _ _ => by unfold chD; rw [caI_same h, caI_same k])
  · rw [chL_no q, chL_no (fun r => q (r.same h.symm k.symm))]
theorem chL_few (x y : Sh) : Few (chL x y) := by
  by_cases h : ChOk x y
  · rw [chL_yes h]
    refine ⟨?_, fun k hk => ?_⟩
    · have h1 := plI_len (n := nmN x.l) (D := chD x y) x.l.length (nmN_le h.a)
      have h2 := h.a.ls.len
      omega
    · rw [plI_two _ _ (it_in hk)]
      exact Nat.le_refl _
  · rw [chL_no h]
    exact ⟨by simp, fun k hk => absurd hk (by simp)⟩
theorem majTo_ge (v : Nat → Int) : ∀ n, -1 ≤ majTo v n
  | 0 => Int.le_refl _
  | n + 1 => by
    rw [majTo]
    split
    · omega
    · exact majTo_ge v n
theorem rvTo_ge {rv : List Rv} {l : List Im} (h : RvAll l rv) (i j : Int) : ∀ n, n ≤ rv.length → ∀ m, rvTo rv i j n = some m → 0 ≤ m
  | 0, _, m, h0 => by cases h0
  | n + 1, hn, m, h1 => by
    rw [rvTo] at h1
    split at h1
    · rw [← Option.some.inj h1]
      exact (h.each n (by omega)).mark.1
    · exact rvTo_ge h i j n (by omega) m h1
theorem caI_ge {x : Sh} (h : ShOk x) (i j : Nat) : -1 ≤ caI x i j := by
  cases hq : rvTo x.rv i j x.rv.length with
  | none =>
    rw [caI_none hq]
    exact majTo_ge _ _
  | some m =>
    rw [caI_some hq]
    have := rvTo_ge h.re i j _ (Nat.le_refl _) m hq
    omega
/-- Calls differ, or one alone is open. -/
theorem ch_bool {c d : Int} (hc : -1 ≤ c) (hd : -1 ≤ d) : (((if c < 0 then (0 : Int) else c) != (if d < 0 then 0 else d)) || (decide (0 ≤ c) != decide (0 ≤ d))) = decide (c ≠ d) := by
  by_cases h1 : c < 0
  · obtain rfl : c = -1 := by omega
    by_cases h2 : d < 0
    · obtain rfl : d = -1 := by omega
      rfl
    · rw [if_pos h1, if_neg h2, decide_eq_false (show ¬ (0 : Int) ≤ -1 by omega), decide_eq_true (show (0 : Int) ≤ d by omega), decide_eq_true (show (-1 : Int) ≠ d by omega)]
      simp
  · by_cases h2 : d < 0
    · obtain rfl : d = -1 := by omega
      rw [if_neg h1, if_pos h2, decide_eq_true (show (0 : Int) ≤ c by omega), decide_eq_false (show ¬ (0 : Int) ≤ -1 by omega), decide_eq_true (show c ≠ -1 by omega)]
      simp
    · rw [if_neg h1, if_neg h2, decide_eq_true (show (0 : Int) ≤ c by omega), decide_eq_true (show (0 : Int) ≤ d by omega)]
      by_cases e : c = d
      · subst e
        simp
      · rw [decide_eq_true e]
        simp [e]
set_option maxHeartbeats 2000000 in
theorem chC_any (x y : Sh) (i j p q : Nat) (w : World) (hm : ShMem w p x) (hm2 : ShMem w q y) (hq : q < w.heap.size) (hr : ShIn w w.heap.size x) (hr2 : ShIn w w.heap.size y) (hl : ShFits x) (hl2 : ShFits y) (hok : ChOk x y) (hi : i < x.l.length) (hj : j < (it x.l i).ns.length) :
    Calls Try.prog 96 (#[.int .i64 (i : Int), .int .i64 (j : Int)] ++ #[.pointer (some ⟨p, 0, none⟩), .pointer (some ⟨q, 0, none⟩)]) w fun e w' => e = .returned (.bool (chD x y i j)) ∧ Below w.heap.size w w' := by
  show Calls Try.prog 96 #[.int .i64 (i : Int), .int .i64 (j : Int), .pointer (some ⟨p, 0, none⟩), .pointer (some ⟨q, 0, none⟩)] w _
  have HC := Lib.hid (callIn_any x i j w hr hl hok.a hi hj)
  have HE := Lib.hid (fun w' (h : ShIn w' w'.heap.size y) => callIn_any y i j w' h hl2 hok.b (by have := hok.nm.len; omega) (by have := hok.nm.each i hi; rw [this]; exact hj))
  have HM2 := Lib.hid hm2
  have HR2 := Lib.hid hr2
  have HD := Lib.hid (ch_bool (caI_ge hok.a i j) (caI_ge hok.b i j))
  obtain ⟨x0, x1, x2, xf⟩ := hm
  clear hr hr2 hl hl2 hok hi hj hm2
  unfold chD
  rw [← HD.out]
  clear HD
  generalize caI x i j = c at HC ⊢
  generalize caI y i j = d at HE ⊢
  unfold ansC at HC HE
  generalize (if c < 0 then (0 : Int) else c) = a at HC ⊢
  generalize decide (0 ≤ c) = b at HC ⊢
  generalize (if d < 0 then (0 : Int) else d) = a2 at HE ⊢
  generalize decide (0 ≤ d) = b2 at HE ⊢
  go_enter Try.func96, Try.ntmps96
  go_wp2_with fail
  clear x0 x1 x2
  refine HC.out.mono ?_
  rintro e w2 ⟨rfl, hb2⟩
  have HB2 := Lib.hid hb2
  obtain ⟨x0, x1, x2, xg⟩ := HM2.out.below hb2 hq
  have HG := Lib.hid (HE.out w2 (HR2.out.next hb2))
  clear hb2 HC HE
  go_wp2_with fail
  clear x0 x1 x2
  refine HG.out.mono ?_
  rintro e w3 ⟨rfl, hb3⟩
  have HB3 := Lib.hid (below_next HB2.out hb3)
  clear hb3
  by_cases h : a = a2
  · subst h
    have hd : (a != a) = false := by simp
    go_wp2
    go_ret
    exact ⟨by rw [hd, Bool.false_or]; first | rfl | (simp; done) | (cases b <;> cases b2 <;> rfl), HB3.out⟩
  · have hd : (a != a2) = true := by simpa using h
    clear h
    go_wp2
    go_ret
    exact ⟨by rw [hd]; rfl, HB3.out⟩
set_option maxHeartbeats 4000000 in
theorem iChangedCalls_any (x y : Sh) (w : World) (hr : ShIn w w.heap.size x) (hr2 : ShIn w w.heap.size y) (hl : ShFits x) (hl2 : ShFits y) :
    Calls Try.prog 49 #[x.val, y.val] w fun e w' => (∃ r : Rw (Rw Int), e = .returned (.tuple #[.slice r.A r.xs.length r.c, .bool (pB (ChOk x y))]) ∧ PairsAns (chL x y) w w' r) ∧ Below w.heap.size w w' := by
  obtain ⟨W, hW, hB, hX, hY, hsx, hsy⟩ : ∃ W, W = (w.alloc (.cells #[.slice x.P x.l.length x.c, .slice x.V.A x.V.xs.length x.V.c, .slice x.R x.rv.length x.e] 32)).alloc (.cells #[.slice y.P y.l.length y.c, .slice y.V.A y.V.xs.length y.V.c, .slice y.R y.rv.length y.e] 32) ∧ Below w.heap.size w W ∧ ShMem W w.heap.size x ∧ ShMem W (w.heap.size + 1) y ∧ w.heap.size < W.heap.size ∧ w.heap.size + 1 < W.heap.size :=
    ⟨_, rfl, below_next (below_alloc _ _) (below_alloc _ _), (imMem_new w _ 32 rfl _ _ _).below (below_alloc _ _) (by simp), imMem_new _ _ 32 (by simp) _ _ _, by simp; omega, by simp⟩
  have HR := Lib.hid (hr.next hB)
  have HR' := Lib.hid (hr2.next hB)
  have HB0 := Lib.hid hB
  have HX := Lib.hid hX
  have HY := Lib.hid hY
  have HF := Lib.hid hl
  have HF' := Lib.hid hl2
  clear hr hr2 hl hl2 hB hX hY
  unfold Sh.val
  go_enter Try.func49, Try.ntmps49
  go_wp2_with fail
  rw [← hW]
  clear hW
  have HC := Lib.hid (iIsSheet_any x W HR.out HF.out)
  by_cases h1 : ShOk x
  rotate_left
  · rw [pB_no h1] at HC
    have HP := Lib.hid (And.intro (pB_no (fun q : ChOk x y => h1 q.a)) (chL_no (fun q : ChOk x y => h1 q.a)))
    clear h1
    refine HC.out.mono ?_
    rintro e w1 ⟨rfl, hb1⟩
    have HB1 := Lib.hid (below_next HB0.out hb1)
    clear hb1
    go_wp2
    go_returns
    rw [HP.out.1, HP.out.2]
    exact ⟨⟨⟨none, 0, []⟩, rfl, PairsAns.nil _ _⟩, HB1.out⟩
  rw [pB_yes h1] at HC
  have H1 := Lib.hid h1
  clear h1
  refine HC.out.mono ?_
  rintro e w1 ⟨rfl, hb1⟩
  have HB1 := Lib.hid (below_next HB0.out hb1)
  have HX1 := Lib.hid (HX.out.below hb1 hsx)
  have HY1 := Lib.hid (HY.out.below hb1 hsy)
  have HR1 := Lib.hid (HR.out.next hb1)
  have HR1' := Lib.hid (HR'.out.next hb1)
  have hs1 := Nat.lt_of_lt_of_le hsx hb1.size
  have ht1 := Nat.lt_of_lt_of_le hsy hb1.size
  clear hb1 HC
  obtain ⟨y0, y1, y2, yf⟩ := HY1.out
  have HC := Lib.hid (iIsSheet_any y w1 HR1'.out HF'.out)
  go_wp2_with fail
  clear y0 y1 y2 yf
  by_cases h2 : ShOk y
  rotate_left
  · rw [pB_no h2] at HC
    have HP := Lib.hid (And.intro (pB_no (fun q : ChOk x y => h2 q.b)) (chL_no (fun q : ChOk x y => h2 q.b)))
    clear h2
    refine HC.out.mono ?_
    rintro e w2 ⟨rfl, hb2⟩
    have HB2 := Lib.hid (below_next HB1.out hb2)
    clear hb2
    go_wp2
    go_returns
    rw [HP.out.1, HP.out.2]
    exact ⟨⟨⟨none, 0, []⟩, rfl, PairsAns.nil _ _⟩, HB2.out⟩
  rw [pB_yes h2] at HC
  have H2 := Lib.hid h2
  clear h2
  refine HC.out.mono ?_
  rintro e w2 ⟨rfl, hb2⟩
  have HB2 := Lib.hid (below_next HB1.out hb2)
  have HX2 := Lib.hid (HX1.out.below hb2 hs1)
  have HY2 := Lib.hid (HY1.out.below hb2 ht1)
  have HR2 := Lib.hid (HR1.out.next hb2)
  have HR2' := Lib.hid (HR1'.out.next hb2)
  have hs2 := Nat.lt_of_lt_of_le hs1 hb2.size
  have ht2 := Nat.lt_of_lt_of_le ht1 hb2.size
  clear hb2 HC
  obtain ⟨x0, x1, x2, xf⟩ := HX2.out
  obtain ⟨y0, y1, y2, yf⟩ := HY2.out
  have HC := Lib.hid (equalFunc_any x.P y.P x.c y.c x.l y.l w2 HR2.out.its HR2'.out.its HF.out.its HF'.out.its)
  go_wp2_with fail
  clear x0 x1 x2 xf y0 y1 y2 yf
  by_cases h3 : SameN x.l y.l
  rotate_left
  · rw [pB_no h3] at HC
    have HP := Lib.hid (And.intro (pB_no (fun q : ChOk x y => h3 q.nm)) (chL_no (fun q : ChOk x y => h3 q.nm)))
    clear h3
    refine HC.out.mono ?_
    rintro e w3 ⟨rfl, hb3⟩
    have HB3 := Lib.hid (below_next HB2.out hb3)
    clear hb3
    go_wp2
    go_returns
    rw [HP.out.1, HP.out.2]
    exact ⟨⟨⟨none, 0, []⟩, rfl, PairsAns.nil _ _⟩, HB3.out⟩
  rw [pB_yes h3] at HC
  have HOK := Lib.hid (⟨H1.out, H2.out, h3⟩ : ChOk x y)
  have HP := Lib.hid (And.intro (pB_yes HOK.out) (chL_yes HOK.out))
  clear h3
  refine HC.out.mono ?_
  rintro e w3 ⟨rfl, hb3⟩
  have HB3 := Lib.hid (below_next HB2.out hb3)
  have HX3 := Lib.hid (HX2.out.below hb3 hs2)
  have HY3 := Lib.hid (HY2.out.below hb3 ht2)
  have HR3 := Lib.hid (HR2.out.next hb3)
  have HR3' := Lib.hid (HR2'.out.next hb3)
  have hs3 := Nat.lt_of_lt_of_le hs2 hb3.size
  have ht3 := Nat.lt_of_lt_of_le ht2 hb3.size
  clear hb3 HC
  obtain ⟨x0, x1, x2, xf⟩ := HX3.out
  have eG : ∀ args w, (callFunc 96 args).run Try.prog w = .ok (.enter 96 args) w := enters_of Try.func96 (by kernel_rfl) rfl
  have HC := Lib.hid (namesWhere_any x.P x.c x.l 96 #[.pointer (some ⟨w.heap.size, 0, none⟩), .pointer (some ⟨w.heap.size + 1, 0, none⟩)] (chD x y) w3 HR3.out.its H1.out.ls eG (fun W' hb i j hi hj => chC_any x y i j w.heap.size (w.heap.size + 1) W' (HX3.out.below hb hs3) (HY3.out.below hb ht3) (Nat.lt_of_lt_of_le ht3 hb.size) (HR3.out.next hb) (HR3'.out.next hb) HF.out HF'.out HOK.out hi hj))
  clear eG
  go_wp2_with (go_at_call 83; refine HC.out.mono ?_; rintro e w4 ⟨⟨r, rfl, hy1, hy2, hy3⟩, hb4⟩; have HA := Lib.hid (And.intro hy1 (And.intro hy2 hy3)); have HB4 := Lib.hid (below_next HB3.out hb4); clear hy1 hy2 hy3 hb4)
  go_returns
  rw [HP.out.1, HP.out.2]
  exact ⟨⟨r, rfl, HA.out.1, HA.out.2.1, Nst.own_mono HA.out.2.2 (fun i hi => ⟨Nat.le_trans HB3.out.size hi.1, hi.2⟩)⟩, HB4.out⟩
end Go.Proofs.Ytpmjfanalcaodaa
