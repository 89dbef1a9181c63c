/- OpenCalls of the model; IsFinal of the program. -/
import Derived.Test.YtpmjfanalcaodaaShU
namespace Go.Proofs.Ytpmjfanalcaodaa
open Go.ChangeShapes Go.WideShapes Go.ChangeAt Go.RowKit Go.Lib Go.Proofs
set_option linter.unusedVariables false

set_option maxHeartbeats 2000000 in
theorem sOpenCalls_any (x : Sh) (w : World) (hr : ShIn w w.heap.size x) (hl : ShFits x) :
    Calls Try.prog 30 #[x.val] w fun e w' => (∃ y : Rw (Rw Int), e = .returned (.tuple #[.slice y.A y.xs.length y.c, .bool (pB (ShOk x))]) ∧ PairsAns (opL x) w w' y) ∧ Below w.heap.size w w' := by
  have hb0 := below_alloc w (.cells #[.slice x.P x.l.length x.c, .slice x.V.A x.V.xs.length x.V.c, .slice x.R x.rv.length x.e] 32)
  have HR := Lib.hid (hr.next hb0)
  have HX := Lib.hid (imMem_new w _ 32 rfl (.slice x.P x.l.length x.c) (.slice x.V.A x.V.xs.length x.V.c) (.slice x.R x.rv.length x.e))
  have hsW : w.heap.size < (w.alloc (.cells #[.slice x.P x.l.length x.c, .slice x.V.A x.V.xs.length x.V.c, .slice x.R x.rv.length x.e] 32)).heap.size := by simp
  have HB0 := Lib.hid hb0
  have HF := Lib.hid hl
  clear hr hl hb0
  unfold Sh.val
  go_enter Try.func30, Try.ntmps30
  go_wp2_with fail
  generalize World.alloc w _ = W at HR HX HB0 hsW ⊢
  have HC := Lib.hid (caGood_any x W HR.out HF.out)
  by_cases h1 : ShOk x
  rotate_left
  · rw [pB_no h1] at HC
    have HP := Lib.hid (And.intro (pB_no h1) (opL_no h1))
    clear h1
    refine HC.out.mono ?_
    rintro e w1 ⟨rfl, hb1⟩
    have HB1 := Lib.hid (below_next HB0.out hb1)
    clear hb1
    go_wp2
    go_returns
    rw [HP.out.1, HP.out.2]
    exact ⟨⟨⟨none, 0, []⟩, rfl, PairsAns.nil _ _⟩, HB1.out⟩
  rw [pB_yes h1] at HC
  have HP := Lib.hid (And.intro (pB_yes h1) (opL_yes h1))
  have H1 := Lib.hid h1
  clear h1
  refine HC.out.mono ?_
  rintro e w1 ⟨rfl, hb1⟩
  have HB1 := Lib.hid (below_next HB0.out hb1)
  have HX1 := Lib.hid (HX.out.below hb1 hsW)
  have HR1 := Lib.hid (HR.out.next hb1)
  clear hb1 HC
  obtain ⟨x0, x1, x2, xf⟩ := HX1.out
  have HC := Lib.hid (caOpen_any x w1 HR1.out HF.out H1.out)
  go_wp2_with (go_at_call 82; refine HC.out.mono ?_; rintro e w2 ⟨⟨y, rfl, hy⟩, hb2⟩; have HY := Lib.hid hy; have HB2 := Lib.hid (below_next HB1.out hb2); clear hy hb2)
  go_returns
  rw [HP.out.1, HP.out.2]
  exact ⟨⟨y, rfl, HY.out.len, HY.out.val, Nst.own_mono HY.out.own (fun i hi => ⟨Nat.le_trans HB1.out.size hi.1, hi.2⟩)⟩, HB2.out⟩

theorem caHasIn (A : Option Addr) (c : Nat) (l : List Int) (n : Int) (w : World) (hr : Lst w w.heap.size A l) (hl : l.length ≤ 1048576) :
    Calls Try.prog 89 #[.slice A l.length c, .int .i64 n] w fun e w' => e = .returned (.bool (decide (n ∈ l))) ∧ w' = w := by
  have HR := Lib.hid hr
  clear hr
  go_enter Try.func89, Try.ntmps89
  go_wp2
  go_loopw [9] (fun v wr => ∃ k : Nat, k ≤ l.length ∧ v = .int .i64 k ∧ Hid (∀ i, i < k → it l i ≠ n) ∧ wr = w) (fun v _ => l.length - (intOf v).toNat)
  case atStart => exact ⟨0, Nat.zero_le _, rfl, Lib.hid none_yet, rfl⟩
  case round =>
    obtain ⟨k, hk, rfl, HI, rfl⟩ := hrel
    by_cases hlt : k < l.length
    · obtain ⟨b, o, rfl, hbl, hc⟩ := HR.out.int (by omega)
      have c0 := hc k hlt
      clear hc
      by_cases he : it l k = n
      · have HM := Lib.hid (show n ∈ l from by
          rw [← he]
          have := it_get l k hlt
          exact List.mem_of_getElem? this)
        have q1 : it l k ≤ n := by omega
        have q2 : n ≤ it l k := by omega
        clear he
        go_wp2
        go_ret
        exact ⟨by rw [decide_eq_true HM.out] <;> rfl, rfl⟩
      · have HI2 := Lib.hid (show ∀ i, i < k + 1 → it l i ≠ n from fun i hi => by
          by_cases e : i = k
          · rw [e]; exact he
          · exact HI.out i (by omega))
        have q1 : it l k < n ∨ n < it l k := by omega
        clear he
        rcases q1 with q1 | q1
        all_goals
          go_wp2
          go_roundw
          case rel => exact ⟨k + 1, by omega, by go_num, HI2, by first | trivial | rfl⟩
          case measure => simp [intOf]; omega
    · obtain rfl : k = l.length := by omega
      have HM := Lib.hid (show ¬ n ∈ l from fun h => by
        obtain ⟨i, hi, e⟩ := List.getElem_of_mem h
        refine HI.out i hi ?_
        have := it_get l i hi
        rw [List.getElem?_eq_getElem hi] at this
        rw [← Option.some.inj this, e])
      go_wp2
      go_ret
      exact ⟨by rw [decide_eq_false HM.out] <;> rfl, rfl⟩

/-- Not final: an open name, or a vote that is missing. -/
def Unset (x : Sh) (i j : Nat) : Prop := caI x i j < 0 ∨ (-1 : Int) ∈ [vt x.V 0 i j, vt x.V 1 i j, vt x.V 2 i j]
instance (x : Sh) (i j : Nat) : Decidable (Unset x i j) := by unfold Unset; exact inferInstance
def fiD (x : Sh) (i j : Nat) : Bool := decide (Unset x i j)
def Fin1 (x : Sh) : Prop := ∀ i, i < x.l.length → ∀ j, j < nmN x.l i → ¬ Unset x i j
theorem plJ_nil {D : Nat → Nat → Bool} {i : Nat} : ∀ n, (plJ D i n = [] ↔ ∀ j, j < n → D i j = false)
  | 0 => ⟨fun _ => none_yet, fun _ => rfl⟩
  | n + 1 => by
    rw [plJ]
    cases hq : D i n
    · rw [if_neg (by simp), plJ_nil n]
      exact ⟨fun h => one_more h hq, fun h j hj => h j (by omega)⟩
    · rw [if_pos rfl]
      exact ⟨fun h => by simp at h, fun h => by have := h n (by omega); rw [hq] at this; cases this⟩
theorem plI_nil {n : Nat → Nat} {D : Nat → Nat → Bool} : ∀ m, (plI n D m = [] ↔ ∀ i, i < m → ∀ j, j < n i → D i j = false)
  | 0 => ⟨fun _ => none_yet, fun _ => rfl⟩
  | m + 1 => by
    rw [plI, List.append_eq_nil_iff, plI_nil m, plJ_nil]
    exact ⟨fun h => one_more h.1 h.2, fun h => ⟨fun i hi => h i (by omega), h m (by omega)⟩⟩
theorem fin_nil (x : Sh) : plI (nmN x.l) (fiD x) x.l.length = [] ↔ Fin1 x := by
  rw [plI_nil]
  exact ⟨fun h i hi j hj => of_decide_eq_false (h i hi j hj), fun h i hi j hj => decide_eq_false (h i hi j hj)⟩
noncomputable def fiV (x : Sh) : Value := .tuple #[.bool (pB (ShOk x ∧ Fin1 x)), .bool (pB (ShOk x))]
theorem fin_same {x y : Sh} (h : ShSame x y) (k : Fin1 x) : Fin1 y := fun i hi j hj => by
  have hl := h.its.len
  have := k i (by omega) j (by rw [← nmN_same h.its (by omega)]; exact hj)
  unfold Unset at this ⊢
  rw [caI_same h, vt_same h.vo, vt_same h.vo, vt_same h.vo]
  exact this
theorem fiV_same {x y : Sh} (h : ShSame x y) : fiV y = fiV x := by
  unfold fiV
  rw [pB_iff (p := ShOk y ∧ Fin1 y) (q := ShOk x ∧ Fin1 x) ⟨fun k => ⟨k.1.same h.symm, fin_same h.symm k.2⟩, fun k => ⟨k.1.same h, fin_same h k.2⟩⟩, shOk_same h]
theorem fiV_no {x : Sh} (h : ¬ ShOk x) : fiV x = .tuple #[.bool false, .bool false] := by
  unfold fiV
  rw [pB_no h, pB_no (fun k => h k.1)]
theorem fiV_ok {x : Sh} (h : ShOk x) : fiV x = .tuple #[.bool (pB (Fin1 x)), .bool true] := by
  unfold fiV
  rw [pB_yes h, pB_iff (p := ShOk x ∧ Fin1 x) (q := Fin1 x) ⟨fun k => k.2, fun k => ⟨h, k⟩⟩]
theorem fiV_form (x : Sh) : ∃ (a b : Bool), fiV x = .tuple #[.bool a, .bool b] := ⟨_, _, rfl⟩
/-- The place of a number in a slice, or -1; whether it is there. -/
theorem index_any (A : Option Addr) (c : Nat) (l : List Int) (n : Int) (w : World) (hr : Lst w w.heap.size A l) (hl : l.length ≤ 1048576) :
    Calls Try.prog 121 #[.slice A l.length c, .int .i64 n] w fun e w' => (∃ i : Int, e = .returned (.int .i64 i) ∧ (0 ≤ i ∧ n ∈ l ∨ i = -1 ∧ ¬ n ∈ l)) ∧ w' = w := by
  have HR := Lib.hid hr
  clear hr
  go_enter Try.func121, Try.ntmps121
  go_wp2
  go_loop [8] (fun v => ∃ k : Nat, k ≤ l.length ∧ v = .int .i64 k ∧ Hid (∀ i, i < k → it l i ≠ n)) (fun v => l.length - (intOf v).toNat)
  case atStart => exact ⟨0, Nat.zero_le _, rfl, Lib.hid none_yet⟩
  case round =>
    obtain ⟨k, hk, rfl, HI⟩ := hrel
    by_cases hlt : k < l.length
    · obtain ⟨b, o, rfl, hbl, hc⟩ := HR.out.int (by omega)
      have c0 := hc k hlt
      have q1 : (0 : Int) ≤ (k : Int) := by omega
      have q2 : (k : Int) < (l.length : Int) := by omega
      clear hc
      by_cases he : n = it l k
      · have HM := Lib.hid (show n ∈ l from by
          rw [he]
          exact List.mem_of_getElem? (it_get l k hlt))
        rw [← he] at c0
        clear he
        go_wp2
        go_ret
        exact ⟨⟨_, rfl, .inl ⟨q1, HM.out⟩⟩, rfl⟩
      · have HI2 := Lib.hid (one_more HI.out (fun e => he e.symm))
        have hd : (n == it l k) = false := by simpa using he
        clear he
        go_wp2
        go_round
        case rel => exact ⟨k + 1, by omega, by go_num, HI2⟩
        case measure => simp [intOf]; omega
    · obtain rfl : k = l.length := by omega
      have HM := Lib.hid (show ¬ n ∈ l from fun h => by
        obtain ⟨i, hi, e⟩ := List.getElem_of_mem h
        refine HI.out i hi ?_
        have := it_get l i hi
        rw [List.getElem?_eq_getElem hi] at this
        rw [← Option.some.inj this, e])
      go_wp2
      go_ret
      exact ⟨⟨_, rfl, .inr ⟨rfl, HM.out⟩⟩, rfl⟩
theorem contains_any (A : Option Addr) (c : Nat) (l : List Int) (n : Int) (w : World) (hr : Lst w w.heap.size A l) (hl : l.length ≤ 1048576) :
    Calls Try.prog 92 #[.slice A l.length c, .int .i64 n] w fun e w' => e = .returned (.bool (decide (n ∈ l))) ∧ w' = w := by
  have HC := Lib.hid (index_any A c l n w hr hl)
  clear hr
  go_enter Try.func92, Try.ntmps92
  go_wp2_with (go_at_call 121; refine HC.out.mono ?_; rintro e w2 ⟨⟨i, rfl, hi⟩, rfl⟩; have HI := Lib.hid hi; clear hi)
  go_ret
  rcases HI.out with ⟨h1, h2⟩ | ⟨h1, h2⟩
  · rw [decide_eq_true h2]
    exact ⟨by simp; omega, rfl⟩
  · rw [decide_eq_false h2, h1]
    exact ⟨rfl, rfl⟩
theorem lst3 {w : World} {b : Nat} {a0 a1 a2 : Int} (h : ImMem w b (.int .i64 a0) (.int .i64 a1) (.int .i64 a2)) (hb : b < w.heap.size) : Lst w w.heap.size (some ⟨b, 0, none⟩) [a0, a1, a2] :=
  Lst.of_int fun _ => ⟨b, 0, rfl, hb, fun i hi => by
    have hi' : i < 3 := hi
    rcases (show i = 0 ∨ i = 1 ∨ i = 2 by omega) with rfl | rfl | rfl
    · exact h.c0
    · exact h.c1
    · exact h.c2⟩
set_option maxHeartbeats 2000000 in
theorem finC_any (x : Sh) (i j p : Nat) (w : World) (hm : ShMem w p x) (hp : p < w.heap.size) (hr : ShIn w w.heap.size x) (hl : ShFits x) (hok : ShOk x) (hi : i < x.l.length) (hj : j < (it x.l i).ns.length) :
    Calls Try.prog 90 (#[.int .i64 (i : Int), .int .i64 (j : Int)] ++ #[.pointer (some ⟨p, 0, none⟩)]) w fun e w' => e = .returned (.bool (fiD x i j)) ∧ Below w.heap.size w w' := by
  show Calls Try.prog 90 #[.int .i64 (i : Int), .int .i64 (j : Int), .pointer (some ⟨p, 0, none⟩)] w _
  have HC := Lib.hid (callIn_any x i j w hr hl hok hi hj)
  have HM := Lib.hid hm
  have HR := Lib.hid hr
  have HF := Lib.hid hl
  have HS := Lib.hid (⟨hok.vo, hi, hj⟩ : Spot x i j)
  obtain ⟨x0, x1, x2, xf⟩ := hm
  have HD := Lib.hid (show fiD x i j = (decide (caI x i j < 0) || decide ((-1 : Int) ∈ [vt x.V 0 i j, vt x.V 1 i j, vt x.V 2 i j])) from by unfold fiD Unset; exact Bool.decide_or _ _)
  clear hr hl hok hi hj
  rw [HD.out, ← not_dec]
  generalize hc : caI x i j = c at HC ⊢
  clear hc HD
  unfold ansC at HC
  generalize (if c < 0 then (0 : Int) else c) = a at HC
  generalize decide (0 ≤ c) = b at HC ⊢
  go_enter Try.func90, Try.ntmps90
  go_wp2_with fail
  clear x0 x1 x2
  refine HC.out.mono ?_
  rintro e w2 ⟨rfl, hb2⟩
  have HB2 := Lib.hid hb2
  have HR2 := Lib.hid (HR.out.next hb2)
  obtain ⟨x0, x1, x2, xg⟩ := HM.out.below hb2 hp
  clear hb2 HC
  have HV := Lib.hid (votesFor_any x i j w2 HR2.out HF.out HS.out)
  go_wp2_with fail
  clear x0 x1 x2
  refine HV.out.mono ?_
  rintro e w3 ⟨rfl, hb3⟩
  have HB3 := Lib.hid (below_next HB2.out hb3)
  clear hb3 HV
  have HB4 := Lib.hid (below_next HB3.out (below_alloc w3 (.cells #[.int .i64 (vt x.V 0 i j), .int .i64 (vt x.V 1 i j), .int .i64 (vt x.V 2 i j)] 105)))
  have HN := Lib.hid (contains_any (some ⟨w3.heap.size, 0, none⟩) 3 [vt x.V 0 i j, vt x.V 1 i j, vt x.V 2 i j] (-1) _ (lst3 (imMem_new w3 _ 105 rfl (.int .i64 (vt x.V 0 i j)) (.int .i64 (vt x.V 1 i j)) (.int .i64 (vt x.V 2 i j))) (by simp)) (by simp))
  cases b
  · go_wp2
    go_ret
    exact ⟨rfl, HB4.out⟩
  · go_wp2_with (go_at_call 92; refine HN.out.mono ?_; rintro e w5 ⟨rfl, rfl⟩)
    go_ret
    exact ⟨by first | rfl | simp, HB4.out⟩
set_option maxHeartbeats 2000000 in
theorem iIsFinal_any (x : Sh) (w : World) (hr : ShIn w w.heap.size x) (hl : ShFits x) :
    Calls Try.prog 47 #[x.val] w fun e w' => e = .returned (fiV x) ∧ Below w.heap.size w w' := by
  have hb0 := below_alloc w (.cells #[.slice x.P x.l.length x.c, .slice x.V.A x.V.xs.length x.V.c, .slice x.R x.rv.length x.e] 32)
  have HR := Lib.hid (hr.next hb0)
  have HX := Lib.hid (imMem_new w _ 32 rfl (.slice x.P x.l.length x.c) (.slice x.V.A x.V.xs.length x.V.c) (.slice x.R x.rv.length x.e))
  have hsW : w.heap.size < (w.alloc (.cells #[.slice x.P x.l.length x.c, .slice x.V.A x.V.xs.length x.V.c, .slice x.R x.rv.length x.e] 32)).heap.size := by simp
  have HB0 := Lib.hid hb0
  have HF := Lib.hid hl
  clear hr hl hb0
  unfold Sh.val
  go_enter Try.func47, Try.ntmps47
  go_wp2_with fail
  generalize World.alloc w _ = W at HR HX HB0 hsW ⊢
  have HC := Lib.hid (iIsSheet_any x W HR.out HF.out)
  by_cases h1 : ShOk x
  rotate_left
  · rw [pB_no h1] at HC
    have HP := Lib.hid (fiV_no h1)
    clear h1
    refine HC.out.mono ?_
    rintro e w1 ⟨rfl, hb1⟩
    have HB1 := Lib.hid (below_next HB0.out hb1)
    clear hb1
    go_wp2
    go_returns
    exact ⟨by rw [HP.out]; try rfl, HB1.out⟩
  rw [pB_yes h1] at HC
  have HP := Lib.hid (fiV_ok h1)
  have H1 := Lib.hid h1
  clear h1
  refine HC.out.mono ?_
  rintro e w1 ⟨rfl, hb1⟩
  have HB1 := Lib.hid (below_next HB0.out hb1)
  have HX1 := Lib.hid (HX.out.below hb1 hsW)
  have HR1 := Lib.hid (HR.out.next hb1)
  have hs1 := Nat.lt_of_lt_of_le hsW hb1.size
  clear hb1 HC
  obtain ⟨x0, x1, x2, xf⟩ := HX1.out
  have eG : ∀ args w, (callFunc 90 args).run Try.prog w = .ok (.enter 90 args) w := enters_of Try.func90 (by kernel_rfl) rfl
  have HC := Lib.hid (namesWhere_any x.P x.c x.l 90 #[.pointer (some ⟨w.heap.size, 0, none⟩)] (fiD x) w1 HR1.out.its H1.out.ls eG (fun W' hb i j hi hj => finC_any x i j w.heap.size W' (HX1.out.below hb hs1) (Nat.lt_of_lt_of_le hs1 hb.size) (HR1.out.next hb) HF.out H1.out hi hj))
  clear eG
  go_wp2_with (go_at_call 83; refine HC.out.mono ?_; rintro e w2 ⟨⟨y, rfl, hy1, hy2, hy3⟩, hb2⟩; have HY := Lib.hid hy1; have HB2 := Lib.hid (below_next HB1.out hb2); clear hy1 hy2 hy3 hb2)
  go_returns
  refine ⟨?_, HB2.out⟩
  rw [HP.out]
  have hf : ((y.xs.length : Int) == 0) = pB (Fin1 x) := by
    rw [HY.out]
    by_cases h : Fin1 x
    · rw [pB_yes h, (fin_nil x).2 h]
      rfl
    · rw [pB_no h]
      have h2 : plI (nmN x.l) (fiD x) x.l.length ≠ [] := fun q => h ((fin_nil x).1 q)
      have h3 : 0 < (plI (nmN x.l) (fiD x) x.l.length).length := List.length_pos_iff.2 h2
      simp
      omega
  rw [← hf]
  try rfl
end Go.Proofs.Ytpmjfanalcaodaa
