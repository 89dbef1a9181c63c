/- The open names: OpenCalls of the program and of the model. -/
import Derived.Test.YtbhfhjhegcfdkaaShS
namespace Go.Proofs.Ytbhfhjhegcfdkaa
open Go.ChangeShapes Go.WideShapes Go.ChangeAt Go.RowKit Go.Lib Go.Proofs
set_option linter.unusedVariables false

/-- Is a name open? -/
def opD (x : Sh) (i j : Nat) : Bool := decide (caI x i j < 0)
noncomputable def opL (x : Sh) : List (List Int) := @ite _ (ShOk x) (Classical.propDecidable _) (plI (nmN x.l) (opD x) x.l.length) []
theorem opL_yes {x : Sh} (h : ShOk x) : opL x = plI (nmN x.l) (opD x) x.l.length := @if_pos _ (Classical.propDecidable _) h _ _ _
theorem opL_no {x : Sh} (h : ¬ ShOk x) : opL x = [] := @if_neg _ (Classical.propDecidable _) h _ _ _
theorem nmN_same {l m : List Im} (h : SameS l m) {k : Nat} (hk : k < l.length) : nmN m k = nmN l k := by
  unfold nmN
  rw [(h.each k hk).ns]
theorem opL_same {x y : Sh} (h : ShSame x y) : opL y = opL x := by
  by_cases k : ShOk x
  · rw [opL_yes k, opL_yes (k.same h), h.its.len]
    exact plI_congr _ (fun i hi => nmN_same h.its hi) (fun i j _ _ => by unfold opD; rw [caI_same h])
  · rw [opL_no k, opL_no (fun q => k (q.same h.symm))]
theorem nmN_le {x : Sh} (h : ShOk x) : ∀ k, k < x.l.length → nmN x.l k ≤ 3 := fun k hk => (h.ls.each k hk).hi
theorem opL_len (x : Sh) : (opL x).length ≤ 60 := by
  by_cases k : ShOk x
  · rw [opL_yes k]
    have h1 := plI_len (n := nmN x.l) (D := opD x) x.l.length (nmN_le k)
    have h2 := k.ls.len
    omega
  · rw [opL_no k]
    simp
/-- An answer that is a list of pairs of the call's own. -/
structure PairsAns (ps : List (List Int)) (w w' : World) (y : Rw (Rw Int)) : Prop where
  len : y.xs.length = ps.length
  val : ∀ k, k < ps.length → (it y.xs k).xs = it ps k
  own : Nst.Own (iv w.heap.size w'.heap.size) w' y
theorem PairsAns.nil (w w' : World) : PairsAns [] w w' ⟨none, 0, []⟩ :=
  ⟨rfl, fun k hk => absurd hk (by simp), 0, fun _ _ => False, Owned.nil _ _ _, fun i hi => absurd hi (by simp), fun i hi h => h, fun i j x _ _ h => h.elim, fun hp => absurd hp (by simp), fun i x _ h => h.elim⟩
theorem not_dec (c : Int) : (!decide (0 ≤ c)) = decide (c < 0) := by
  by_cases h : 0 ≤ c
  · rw [decide_eq_true h, decide_eq_false (by omega)]
    rfl
  · rw [decide_eq_false h, decide_eq_true (by omega)]
    rfl
/-- The sheet's cells in its box. -/
@[reducible] def ShMem (w : World) (b : Nat) (x : Sh) : Prop := ImMem w b (.slice x.P x.l.length x.c) (.slice x.V.A x.V.xs.length x.V.c) (.slice x.R x.rv.length x.e)
set_option maxHeartbeats 2000000 in
theorem openC_any (x : Sh) (i j p : Nat) (w : World) (hm : ShMem w p x) (hr : ShIn w w.heap.size x) (hl : ShFits x) (hok : ShOk x) (hi : i < x.l.length) (hj : j < (it x.l i).ns.length) :
    Calls Try.prog 46 (#[.int .i64 (i : Int), .int .i64 (j : Int)] ++ #[.pointer (some ⟨p, 0, none⟩)]) w fun e w' => e = .returned (.bool (opD x i j)) ∧ Below w.heap.size w w' := by
  show Calls Try.prog 46 #[.int .i64 (i : Int), .int .i64 (j : Int), .pointer (some ⟨p, 0, none⟩)] w _
  have HC := Lib.hid (callIn_any x i j w hr hl hok hi hj)
  obtain ⟨x0, x1, x2, xf⟩ := hm
  clear hr hl hok hi hj
  unfold opD
  rw [← not_dec]
  generalize hc : caI x i j = c at HC ⊢
  clear hc
  unfold ansC at HC
  generalize (if c < 0 then (0 : Int) else c) = a at HC
  generalize decide (0 ≤ c) = b at HC ⊢
  go_enter Try.func46, Try.ntmps46
  go_wp2_with (go_at_call 24; refine HC.out.mono ?_; rintro e w2 ⟨rfl, hb2⟩; have HB2 := Lib.hid hb2; clear hb2)
  go_ret
  exact ⟨rfl, HB2.out⟩
set_option maxHeartbeats 2000000 in
theorem iOpenCalls_any (x : Sh) (w : World) (hr : ShIn w w.heap.size x) (hl : ShFits x) :
    Calls Try.prog 22 #[x.val] w fun e w' => (∃ y : Rw (Rw Int), e = .returned (.tuple #[.slice y.A y.xs.length y.c, .bool (pB (ShOk x))]) ∧ PairsAns (opL x) w w' y) ∧ Below w.heap.size w w' := by
  have hb0 := below_alloc w (.cells #[.slice x.P x.l.length x.c, .slice x.V.A x.V.xs.length x.V.c, .slice x.R x.rv.length x.e] 33)
  have HR := Lib.hid (hr.next hb0)
  have HX := Lib.hid (imMem_new w _ 33 rfl (.slice x.P x.l.length x.c) (.slice x.V.A x.V.xs.length x.V.c) (.slice x.R x.rv.length x.e))
  have hsW : w.heap.size < (w.alloc (.cells #[.slice x.P x.l.length x.c, .slice x.V.A x.V.xs.length x.V.c, .slice x.R x.rv.length x.e] 33)).heap.size := by simp
  have HB0 := Lib.hid hb0
  have HF := Lib.hid hl
  clear hr hl hb0
  unfold Sh.val
  go_enter Try.func22, Try.ntmps22
  go_wp2_with fail
  generalize World.alloc w _ = W at HR HX HB0 hsW ⊢
  have HC := Lib.hid (iIsSheet_any x W HR.out HF.out)
  by_cases h1 : ShOk x
  rotate_left
  · rw [pB_no h1] at HC
    have HP := Lib.hid (And.intro (pB_no h1) (opL_no h1))
    clear h1
    refine HC.out.mono ?_
    rintro e w1 ⟨rfl, hb1⟩
    have HB1 := Lib.hid (below_next HB0.out hb1)
    clear hb1
    go_wp2
    go_returns
    rw [HP.out.1, HP.out.2]
    exact ⟨⟨⟨none, 0, []⟩, rfl, PairsAns.nil _ _⟩, HB1.out⟩
  rw [pB_yes h1] at HC
  have HP := Lib.hid (And.intro (pB_yes h1) (opL_yes h1))
  have H1 := Lib.hid h1
  clear h1
  refine HC.out.mono ?_
  rintro e w1 ⟨rfl, hb1⟩
  have HB1 := Lib.hid (below_next HB0.out hb1)
  have HX1 := Lib.hid (HX.out.below hb1 hsW)
  have HR1 := Lib.hid (HR.out.next hb1)
  have hs1 := Nat.lt_of_lt_of_le hsW hb1.size
  clear hb1 HC
  obtain ⟨x0, x1, x2, xf⟩ := HX1.out
  have eG : ∀ args w, (callFunc 46 args).run Try.prog w = .ok (.enter 46 args) w := enters_of Try.func46 (by kernel_rfl) rfl
  have HC := Lib.hid (namesWhere_any x.P x.c x.l 46 #[.pointer (some ⟨w.heap.size, 0, none⟩)] (opD x) w1 HR1.out.its H1.out.ls eG (fun W' hb i j hi hj => openC_any x i j w.heap.size W' (HX1.out.below hb hs1) (HR1.out.next hb) HF.out H1.out hi hj))
  clear eG
  go_wp2_with (go_at_call 45; refine HC.out.mono ?_; rintro e w2 ⟨⟨y, rfl, hy1, hy2, hy3⟩, hb2⟩; have HY := Lib.hid (And.intro hy1 (And.intro hy2 hy3)); have HB2 := Lib.hid (below_next HB1.out hb2); clear hy1 hy2 hy3 hb2)
  go_returns
  rw [HP.out.1, HP.out.2]
  exact ⟨⟨y, rfl, HY.out.1, HY.out.2.1, Nst.own_mono HY.out.2.2 (fun i hi => ⟨Nat.le_trans HB1.out.size hi.1, hi.2⟩)⟩, HB2.out⟩

end Go.Proofs.Ytbhfhjhegcfdkaa
