/- TimesOf, in the model and in the program. -/
import Derived.Test.YtpjimngdldnomaaItemC
namespace Go.Proofs.Ytpjimngdldnomaa
open Go.ChangeShapes Go.WideShapes Go.ChangeAt Go.RowKit Go.PlainAid
set_option linter.unusedVariables false

theorem cdName_any (s : ByteArray) (w : World) (hs : s.size ≤ 1048576) :
    Calls Try.prog 11 #[.string s] w fun e w' => e = .returned (.bool (pB (NameOk s))) ∧ w = w' := by
  have hbt := get_bt s
  go_enter Try.func11, Try.ntmps11
  go_wp2
  go_loop [3] (fun i => ∃ k : Nat, k ≤ s.size ∧ i = .int .i64 k ∧ Hid (∀ j, j < k → LetOk (bt s j))) (fun i => s.size - (intOf i).toNat)
  case atStart => exact ⟨0, Nat.zero_le _, rfl, Lib.hid (fun j hj => absurd hj (by omega))⟩
  case round =>
    obtain ⟨k, hk, rfl, HI⟩ := hrel
    by_cases hlt : k < s.size
    · have q1 : (0 : Int) ≤ (k : Int) := by omega
      have q2 : (k : Int) < (s.size : Int) := by omega
      have HN : Hid (LetOk (bt s k) → ∀ j, j < k + 1 → LetOk (bt s j)) := Lib.hid (fun h j hj => by
        rcases Nat.lt_or_ge j k with h1 | h1
        · exact HI.out j h1
        · obtain rfl : j = k := by omega
          exact h)
      have HB : Hid (¬ LetOk (bt s k) → pB (NameOk s) = false) := Lib.hid (fun h => pB_no (fun h2 => h (h2.byte k hlt)))
      rcases letOk_cases (bt s k) with (h | ⟨h, h'⟩ | h) | ⟨h, h'⟩ | ⟨h, h'⟩
      · go_wp2
        go_ret
        exact ⟨by rw [HB.out (by unfold LetOk; omega)]; rfl, rfl⟩
      · go_wp2
        go_ret
        exact ⟨by rw [HB.out (by unfold LetOk; omega)]; rfl, rfl⟩
      · go_wp2
        go_ret
        exact ⟨by rw [HB.out (by unfold LetOk; omega)]; rfl, rfl⟩
      · go_wp2
        go_round
        case rel => exact ⟨k + 1, by omega, by go_num, Lib.hid (HN.out (by unfold LetOk; omega))⟩
        case measure => simp [intOf]; omega
      · go_wp2
        go_round
        case rel => exact ⟨k + 1, by omega, by go_num, Lib.hid (HN.out (by unfold LetOk; omega))⟩
        case measure => simp [intOf]; omega
    · obtain rfl : k = s.size := by omega
      by_cases h : 1 ≤ s.size ∧ s.size ≤ 5
      · obtain ⟨h1, h2⟩ := h
        have HV := Lib.hid (pB_yes (⟨h1, h2, HI.out⟩ : NameOk s))
        go_wp2_with (go_at_call 22; refine (l1In_yes _ _ _ _ (by omega) (by omega)).mono ?_; rintro e w' ⟨rfl, rfl⟩)
        go_ret
        exact ⟨by rw [HV.out]; rfl, rfl⟩
      · have HV := Lib.hid (pB_no (fun h' : NameOk s => h ⟨h'.lo, h'.hi⟩))
        go_wp2_with (go_at_call 22; refine (l1In_no _ _ _ _ (by omega)).mono ?_; rintro e w' ⟨rfl, rfl⟩)
        go_ret
        exact ⟨by rw [HV.out]; rfl, rfl⟩
theorem str_eq {a b : ByteArray} (h : a = b) : (a.toList == b.toList) = true := by rw [h]; simp
theorem str_ne {a b : ByteArray} (h : ¬ a = b) : (a.toList == b.toList) = false := by
  rw [Go.ByteArray.toList_eq, Go.ByteArray.toList_eq, beq_eq_false_iff_ne]
  exact fun e => h (ByteArray.ext (Array.ext' e))
/-- An item's box. -/
def boxIm (t : TypeId) (w : World) (y : Im) : World := w.alloc (.cells #[.slice y.A y.ns.length y.c, .slice y.L y.ms.length y.d, .bool y.late] t)
structure BoxedI (w W : World) (y : Im) : Prop where
  below : Below w.heap.size w W
  size : W.heap.size = w.heap.size + 1
  box : ImBox W w.heap.size y
theorem boxedI (t : TypeId) (w : World) (y : Im) : ∃ W, W = boxIm t w y ∧ BoxedI w W y :=
  ⟨_, rfl, below_alloc _ _, by simp [boxIm], imBox_new w t y⟩
/-- How often a name occurs among the first j names. -/
def timI (s : ByteArray) (ns : List ByteArray) : Nat → Nat
  | 0 => 0
  | j + 1 => if it ns j = s then timI s ns j + 1 else timI s ns j
theorem timI_le (s : ByteArray) (ns : List ByteArray) : ∀ j, timI s ns j ≤ j
  | 0 => Nat.le_refl _
  | j + 1 => by
    have := timI_le s ns j
    unfold timI
    by_cases h : it ns j = s
    · rw [if_pos h]; omega
    · rw [if_neg h]; omega
theorem timI_yes {s : ByteArray} {ns : List ByteArray} {j : Nat} (h : it ns j = s) : timI s ns (j + 1) = timI s ns j + 1 := if_pos h
theorem timI_no {s : ByteArray} {ns : List ByteArray} {j : Nat} (h : ¬ it ns j = s) : timI s ns (j + 1) = timI s ns j := if_neg h
/-- How often a name occurs in an item that is combined. -/
def comI (s : ByteArray) (ns : List ByteArray) (j : Nat) : Nat := if 1 < ns.length then timI s ns j else 0
theorem comI_yes {s : ByteArray} {ns : List ByteArray} (h : 1 < ns.length) (j : Nat) : comI s ns j = timI s ns j := if_pos h
theorem comI_no {s : ByteArray} {ns : List ByteArray} (h : ¬ 1 < ns.length) (j : Nat) : comI s ns j = 0 := if_neg h
theorem comI_le (s : ByteArray) (ns : List ByteArray) (j : Nat) : comI s ns j ≤ j := by
  by_cases h : 1 < ns.length
  · rw [comI_yes h]; exact timI_le s ns j
  · rw [comI_no h]; omega
/-- How often a name occurs in the first k items, and in combined ones of them. -/
def timN (s : ByteArray) (xs : List Im) : Nat → Nat
  | 0 => 0
  | k + 1 => timN s xs k + timI s (it xs k).ns (it xs k).ns.length
def comN (s : ByteArray) (xs : List Im) : Nat → Nat
  | 0 => 0
  | k + 1 => comN s xs k + comI s (it xs k).ns (it xs k).ns.length
theorem timN_le {xs : List Im} (hok : ListOk xs) (s : ByteArray) : ∀ k, k ≤ xs.length → timN s xs k ≤ 3 * k ∧ comN s xs k ≤ 3 * k
  | 0, _ => by simp [timN, comN]
  | k + 1, hk => by
    have h1 := timN_le hok s k (by omega)
    have h2 := (hok.each k (by omega)).hi
    have h3 := timI_le s (it xs k).ns (it xs k).ns.length
    have h4 := comI_le s (it xs k).ns (it xs k).ns.length
    simp only [timN, comN]
    omega
set_option maxHeartbeats 1000000 in
theorem pgTimes_any (P : Option Addr) (c : Nat) (xs : List Im) (s : ByteArray) (w : World) (hr : Ims w w.heap.size P xs) (hok : ListOk xs) :
    Calls Try.prog 12 #[.slice P xs.length c, .string s] w fun e w' => e = .returned (.tuple #[.int .i64 (timN s xs xs.length : Nat), .int .i64 (comN s xs xs.length : Nat)]) ∧ Below w.heap.size w w' := by
  have HR := Lib.hid hr
  have HK := Lib.hid hok
  have HT := Lib.hid (timN_le hok s)
  have h14 := hok.len
  clear hr hok
  go_enter Try.func12, Try.ntmps12
  go_wp2
  go_loopw [6, 7, 14] (fun p q i wr => ∃ k : Nat, k ≤ xs.length ∧ i = .int .i64 k ∧ p = .int .i64 (timN s xs k : Nat) ∧ q = .int .i64 (comN s xs k : Nat) ∧ Below w.heap.size w wr) (fun _ _ i _ => xs.length - (intOf i).toNat)
  case atStart => exact ⟨0, Nat.zero_le _, rfl, rfl, rfl, Below.refl _ _⟩
  case round =>
    obtain ⟨k, hk, rfl, rfl, rfl, hb⟩ := hrel
    obtain ⟨t1, t2⟩ := HT.out k hk
    by_cases hlt : k < xs.length
    · obtain ⟨b, o, rfl, hbl, hc⟩ := HR.out.out.im (by omega)
      obtain ⟨c0, c1, c2⟩ := (hc k hlt).below hb hbl
      have hn1 := (HK.out.each k hlt).lo
      have hn3 := (HK.out.each k hlt).hi
      obtain ⟨b', o', hA', hbl', hc'⟩ := (HR.out.each k hlt).ns.str hn1
      rw [hA'] at c0
      have HM := Lib.hid (fun j hj => ((below_next hb (below_alloc _ (.cells #[.slice (some ⟨b', o', none⟩) (it xs k).ns.length (it xs k).c, .slice (it xs k).L (it xs k).ms.length (it xs k).d, .bool (it xs k).late] 39))).cell (p := ⟨b', o' + j, none⟩) hbl').trans (hc' j hj))
      have HB := Lib.hid hb
      have HA := Lib.hid hA'
      clear hc hb hc' hA'
      by_cases hcm : 1 < (it xs k).ns.length
      · have HCM := Lib.hid (fun j => comI_yes (s := s) hcm j)
        go_wp2_with fail
        go_loop [6, 7, 21] (fun p q i => ∃ j : Nat, j ≤ (it xs k).ns.length ∧ i = .int .i64 j ∧ p = .int .i64 (timN s xs k + timI s (it xs k).ns j : Nat) ∧ q = .int .i64 (comN s xs k + timI s (it xs k).ns j : Nat)) (fun _ _ i => (it xs k).ns.length - (intOf i).toNat)
        case atStart => exact ⟨0, Nat.zero_le _, rfl, rfl, rfl⟩
        case round =>
          obtain ⟨j, hj, rfl, rfl, rfl⟩ := hrel
          have hj3 := timI_le s (it xs k).ns j
          by_cases hjl : j < (it xs k).ns.length
          · have hv := HM.out j hjl
            by_cases e : it (it xs k).ns j = s
            · have HE := Lib.hid (timI_yes e)
              have h := str_eq e
              clear e
              go_wp2
              go_round
              case rel => exact ⟨j + 1, by omega, by go_num, by rw [HE.out]; go_num, by rw [HE.out]; go_num⟩
              case measure => simp [intOf]; omega
            · have HE := Lib.hid (timI_no e)
              have h := str_ne e
              clear e
              go_wp2
              go_round
              case rel => exact ⟨j + 1, by omega, by go_num, by rw [HE.out], by rw [HE.out]⟩
              case measure => simp [intOf]; omega
          · obtain rfl : j = (it xs k).ns.length := by omega
            have HC := Lib.hid (HCM.out (it xs k).ns.length)
            go_wp2
            go_roundw
            case rel => exact ⟨k + 1, by omega, by go_num, rfl, by rw [comN, HC.out], below_next HB.out (below_alloc _ _)⟩
            case measure => simp [intOf]; omega
      · have HCM := Lib.hid (fun j => comI_no (s := s) hcm j)
        go_wp2_with fail
        go_loop [6, 7, 21] (fun p q i => ∃ j : Nat, j ≤ (it xs k).ns.length ∧ i = .int .i64 j ∧ p = .int .i64 (timN s xs k + timI s (it xs k).ns j : Nat) ∧ q = .int .i64 (comN s xs k : Nat)) (fun _ _ i => (it xs k).ns.length - (intOf i).toNat)
        case atStart => exact ⟨0, Nat.zero_le _, rfl, rfl, rfl⟩
        case round =>
          obtain ⟨j, hj, rfl, rfl, rfl⟩ := hrel
          have hj3 := timI_le s (it xs k).ns j
          by_cases hjl : j < (it xs k).ns.length
          · have hv := HM.out j hjl
            by_cases e : it (it xs k).ns j = s
            · have HE := Lib.hid (timI_yes e)
              have h := str_eq e
              clear e
              go_wp2
              go_round
              case rel => exact ⟨j + 1, by omega, by go_num, by rw [HE.out]; go_num, rfl⟩
              case measure => simp [intOf]; omega
            · have HE := Lib.hid (timI_no e)
              have h := str_ne e
              clear e
              go_wp2
              go_round
              case rel => exact ⟨j + 1, by omega, by go_num, by rw [HE.out], rfl⟩
              case measure => simp [intOf]; omega
          · obtain rfl : j = (it xs k).ns.length := by omega
            have HC := Lib.hid (HCM.out (it xs k).ns.length)
            go_wp2
            go_roundw
            case rel => exact ⟨k + 1, by omega, by go_num, rfl, by rw [comN, HC.out]; rfl, below_next HB.out (below_alloc _ _)⟩
            case measure => simp [intOf]; omega
    · obtain rfl : k = xs.length := by omega
      go_wp2
      go_ret2
      exact ⟨rfl, hb⟩
theorem isCombined_any (y : Im) (w : World) :
    Calls Try.prog 17 #[y.val] w fun e w' => e = .returned (.bool (decide (1 < y.ns.length))) ∧ Below w.heap.size w w' := by
  by_cases h : 1 < y.ns.length
  · have HV := Lib.hid (decide_eq_true h)
    unfold Im.val
    go_enter Try.func17, Try.ntmps17
    go_wp2
    go_ret
    exact ⟨by rw [HV.out]; first | rfl | (simp; omega), below_alloc _ _⟩
  · have HV := Lib.hid (decide_eq_false h)
    unfold Im.val
    go_enter Try.func17, Try.ntmps17
    go_wp2
    go_ret
    exact ⟨by rw [HV.out]; first | rfl | (simp; omega), below_alloc _ _⟩
set_option maxHeartbeats 1000000 in
theorem timesInItem_any (y : Im) (s : ByteArray) (w : World) (hy : ImIn w w.heap.size y) (h1 : 0 < y.ns.length) (h3 : y.ns.length ≤ 3) :
    Calls Try.prog 16 #[y.val, .string s] w fun e w' => e = .returned (.int .i64 (timI s y.ns y.ns.length : Nat)) ∧ Below w.heap.size w w' := by
  obtain ⟨Y1, k1, Y2, k2, ns, ms, lt⟩ := y
  obtain ⟨b, o, rfl, hbl, hn⟩ := hy.ns.str h1
  obtain ⟨W, hW, hI⟩ := boxedI 39 w ⟨some ⟨b, o, none⟩, k1, Y2, k2, ns, ms, lt⟩
  have HB := Lib.hid hI.below
  have HN := Lib.hid (fun j hj => (hI.below.cell (p := ⟨b, o + j, none⟩) hbl).trans (hn j hj))
  have HY := Lib.hid hI.box
  have h1' : 0 < ns.length := h1
  have h3' : ns.length ≤ 3 := h3
  clear hy hI hn h1 h3
  unfold boxIm at hW
  unfold Im.val
  go_enter Try.func16, Try.ntmps16
  obtain ⟨_, j0, j1, j2⟩ := HY.out
  rw [hW] at j0 j1 j2
  go_wp2_with fail
  rw [← hW]
  clear hW j0 j1 j2
  go_loop [5, 11] (fun p i => ∃ j : Nat, j ≤ ns.length ∧ i = .int .i64 j ∧ p = .int .i64 (timI s ns j : Nat)) (fun _ i => ns.length - (intOf i).toNat)
  case atStart => exact ⟨0, Nat.zero_le _, rfl, rfl⟩
  case round =>
    obtain ⟨j, hj, rfl, rfl⟩ := hrel
    have hj3 := timI_le s ns j
    by_cases hjl : j < ns.length
    · have hv := HN.out j hjl
      by_cases e : it ns j = s
      · have HE := Lib.hid (timI_yes e)
        have h := str_eq e
        clear e
        go_wp2
        go_round
        case rel => exact ⟨j + 1, by omega, by go_num, by rw [HE.out]; go_num⟩
        case measure => simp [intOf]; omega
      · have HE := Lib.hid (timI_no e)
        have h := str_ne e
        clear e
        go_wp2
        go_round
        case rel => exact ⟨j + 1, by omega, by go_num, by rw [HE.out]⟩
        case measure => simp [intOf]; omega
    · obtain rfl : j = ns.length := by omega
      go_wp2
      go_ret
      exact ⟨rfl, HB.out⟩
set_option maxHeartbeats 1000000 in
theorem iTimesOf_yes (P : Option Addr) (c : Nat) (xs : List Im) (s : ByteArray) (w : World) (hr : Ims w w.heap.size P xs) (hl : ImsFits xs) (hok : ListOk xs) (hn : NameOk s) :
    Calls Try.prog 7 #[.slice P xs.length c, .string s] w fun e w' => e = .returned (.tuple #[.int .i64 (timN s xs xs.length : Nat), .int .i64 (comN s xs xs.length : Nat), .bool true]) ∧ Below w.heap.size w w' := by
  have HA := Lib.hid (iAreItems_any P c xs w hr hl)
  rw [pB_yes hok] at HA
  have HR := Lib.hid hr
  have HK := Lib.hid hok
  have HT := Lib.hid (timN_le hok s)
  have HN := Lib.hid (fun w => iIsName_any s w (by have := hn.hi; omega))
  rw [pB_yes hn] at HN
  have h14 := hok.len
  clear hr hok hl hn
  go_enter Try.func7, Try.ntmps7
  go_wp2_with fail
  refine HA.out.mono ?_
  rintro e w1 ⟨rfl, hb1⟩
  have HB1 := Lib.hid hb1
  clear hb1 HA
  go_wp2_with fail
  refine (HN.out w1).mono ?_
  rintro e w2 ⟨rfl, hw⟩
  obtain rfl := hw
  clear HN
  go_wp2_with fail
  go_loopw [7, 8, 22] (fun p q i wr => ∃ k : Nat, k ≤ xs.length ∧ i = .int .i64 k ∧ p = .int .i64 (timN s xs k : Nat) ∧ q = .int .i64 (comN s xs k : Nat) ∧ Hid (Below w.heap.size w wr)) (fun _ _ i _ => xs.length - (intOf i).toNat)
  case atStart => exact ⟨0, Nat.zero_le _, rfl, rfl, rfl, HB1⟩
  case round =>
    obtain ⟨k, hk, rfl, rfl, rfl, HBR⟩ := hrel
    obtain ⟨t1, t2⟩ := HT.out k hk
    by_cases hlt : k < xs.length
    · obtain ⟨b, o, rfl, hbl, hc⟩ := HR.out.out.im (by omega)
      obtain ⟨c0, c1, c2⟩ := (hc k hlt).below HBR.out hbl
      have hn1 := (HK.out.each k hlt).lo
      have hn3 := (HK.out.each k hlt).hi
      have HE := Lib.hid ((HR.out.each k hlt).next HBR.out)
      have ht3 := timI_le s (it xs k).ns (it xs k).ns.length
      clear hc
      go_wp2_with fail
      clear c0 c1 c2
      generalize hw3 : World.alloc wr _ = w3
      have hb3 : Below wr.heap.size wr w3 := by
        rw [← hw3]
        exact below_alloc _ _
      have HB3 := Lib.hid (below_next HBR.out hb3)
      have HE3 := Lib.hid (HE.out.next hb3)
      have HY3 := Lib.hid (show ImBox w3 wr.heap.size (it xs k) from by rw [← hw3]; exact imBox_new wr 39 (it xs k))
      clear hw3 hb3
      refine (timesInItem_any (it xs k) s w3 HE3.out hn1 hn3).mono ?_
      rintro e w4 ⟨rfl, hb4⟩
      have HB4 := Lib.hid (below_next HB3.out hb4)
      have HY4 := Lib.hid (HY3.out.next hb4)
      obtain ⟨_, j0, j1, j2⟩ := HY4.out
      clear hb4
      go_wp2_with fail
      clear j0 j1 j2
      refine (isCombined_any (it xs k) w4).mono ?_
      rintro e w5 ⟨he, hb5⟩
      have HB5 := Lib.hid (below_next HB4.out hb5)
      clear hb5
      by_cases h1 : 1 < (it xs k).ns.length
      · rw [decide_eq_true h1] at he
        subst he
        have HC := Lib.hid (comI_yes (s := s) h1 (it xs k).ns.length)
        clear h1
        go_wp2
        go_roundw
        case rel => exact ⟨k + 1, by omega, by go_num, by rw [timN]; go_num, by rw [comN, HC.out]; go_num, HB5⟩
        case measure => simp [intOf]; omega
      · rw [decide_eq_false h1] at he
        subst he
        have HC := Lib.hid (comI_no (s := s) h1 (it xs k).ns.length)
        clear h1
        go_wp2
        go_roundw
        case rel => exact ⟨k + 1, by omega, by go_num, by rw [timN]; go_num, by rw [comN, HC.out]; rfl, HB5⟩
        case measure => simp [intOf]; omega
    · obtain rfl : k = xs.length := by omega
      go_wp2
      go_returns
      exact ⟨rfl, HBR.out⟩

theorem Below_next {w w1 w2 : World} (h : Below w.heap.size w w1) (k : Below w1.heap.size w1 w2) : Below w.heap.size w w2 := h.trans (k.mono h.size)
/-- What TimesOf answers. -/
structure TmAsk (xs : List Im) (s : ByteArray) : Prop where
  list : ListOk xs
  name : NameOk s
noncomputable def tmV (xs : List Im) (s : ByteArray) : Value := @ite _ (TmAsk xs s) (Classical.propDecidable _) (.tuple #[.int .i64 (timN s xs xs.length : Nat), .int .i64 (comN s xs xs.length : Nat), .bool true]) (.tuple #[.int .i64 0, .int .i64 0, .bool false])
theorem tmV_yes {xs : List Im} {s : ByteArray} (h : TmAsk xs s) : tmV xs s = .tuple #[.int .i64 (timN s xs xs.length : Nat), .int .i64 (comN s xs xs.length : Nat), .bool true] := by unfold tmV; exact @if_pos _ (Classical.propDecidable _) h _ _ _
theorem tmV_no {xs : List Im} {s : ByteArray} (h : ¬ TmAsk xs s) : tmV xs s = .tuple #[.int .i64 0, .int .i64 0, .bool false] := by unfold tmV; exact @if_neg _ (Classical.propDecidable _) h _ _ _
theorem tmV_form (xs : List Im) (s : ByteArray) : ∃ (p q : Int) (b : Bool), tmV xs s = .tuple #[.int .i64 p, .int .i64 q, .bool b] := by
  by_cases h : TmAsk xs s
  · exact ⟨_, _, true, tmV_yes h⟩
  · exact ⟨0, 0, false, tmV_no h⟩
theorem listOk_of {xs ys : List Im} (h : SameS xs ys) (k : ListOk xs) : ListOk ys := ⟨by rw [h.len]; exact k.len, fun i hi => by
  have e := h.each i (by have := h.len; omega)
  rw [e.ns, e.ms]
  exact k.each i (by have := h.len; omega)⟩
theorem timN_same {xs ys : List Im} (h : SameS xs ys) (s : ByteArray) : ∀ k, k ≤ xs.length → timN s xs k = timN s ys k ∧ comN s xs k = comN s ys k
  | 0, _ => ⟨rfl, rfl⟩
  | k + 1, hk => by
    obtain ⟨h1, h2⟩ := timN_same h s k (by omega)
    have e := (h.each k (by omega)).ns
    simp only [timN, comN, h1, h2, e, and_self]
theorem tmV_same {xs ys : List Im} (h : SameS xs ys) (s : ByteArray) : tmV xs s = tmV ys s := by
  by_cases hx : TmAsk xs s
  · have hy : TmAsk ys s := ⟨listOk_of h hx.list, hx.name⟩
    obtain ⟨h1, h2⟩ := timN_same h s xs.length (Nat.le_refl _)
    rw [tmV_yes hx, tmV_yes hy, h1, h2, h.len]
  · have hy : ¬ TmAsk ys s := fun q => hx ⟨listOk_of h.symm q.list, q.name⟩
    rw [tmV_no hx, tmV_no hy]

set_option maxHeartbeats 1000000 in
theorem sTimesOf_any (P : Option Addr) (c : Nat) (xs : List Im) (s : ByteArray) (w : World) (hr : Ims w w.heap.size P xs) (hl : ImsFits xs) (hs : s.size ≤ 1048576) :
    Calls Try.prog 5 #[.slice P xs.length c, .string s] w fun e w' => e = .returned (tmV xs s) ∧ Below w.heap.size w w' := by
  have HA := Lib.hid (itList_any P c xs w hr hl)
  have HN := Lib.hid (fun w => cdName_any s w hs)
  have HR := Lib.hid hr
  clear hr hl
  by_cases hk : ListOk xs
  · rw [pB_yes hk] at HA
    by_cases hn : NameOk s
    · rw [pB_yes hn] at HN
      have HV := Lib.hid (tmV_yes ⟨hk, hn⟩)
      have HK := Lib.hid hk
      clear hk hn
      go_enter Try.func5, Try.ntmps5
      go_wp2_with fail
      refine HA.out.mono ?_
      rintro e w1 ⟨rfl, hb1⟩
      have HB1 := Lib.hid hb1
      clear hb1 HA
      go_wp2_with fail
      refine (HN.out w1).mono ?_
      rintro e w2 ⟨rfl, hw⟩
      obtain rfl := hw
      clear HN
      go_wp2_with fail
      refine (pgTimes_any P c xs s w1 (HR.out.next HB1.out) HK.out).mono ?_
      rintro e w2 ⟨rfl, hb2⟩
      have HB2 := Lib.hid (below_next HB1.out hb2)
      clear hb2
      go_wp2_with fail
      go_returns
      exact ⟨by rw [HV.out]; rfl, HB2.out⟩
    · rw [pB_no hn] at HN
      have HV := Lib.hid (tmV_no (fun q : TmAsk xs s => hn q.name))
      clear hk hn
      go_enter Try.func5, Try.ntmps5
      go_wp2_with fail
      refine HA.out.mono ?_
      rintro e w1 ⟨rfl, hb1⟩
      have HB1 := Lib.hid hb1
      clear hb1 HA
      go_wp2_with fail
      refine (HN.out w1).mono ?_
      rintro e w2 ⟨rfl, hw⟩
      obtain rfl := hw
      clear HN
      go_wp2_with fail
      go_returns
      exact ⟨by rw [HV.out]; rfl, HB1.out⟩
  · rw [pB_no hk] at HA
    have HV := Lib.hid (tmV_no (fun q : TmAsk xs s => hk q.list))
    clear hk
    go_enter Try.func5, Try.ntmps5
    go_wp2_with fail
    refine HA.out.mono ?_
    rintro e w1 ⟨rfl, hb1⟩
    have HB1 := Lib.hid hb1
    clear hb1 HA
    go_wp2_with fail
    go_returns
    exact ⟨by rw [HV.out]; rfl, HB1.out⟩
set_option maxHeartbeats 1000000 in
theorem iTimesOf_any (P : Option Addr) (c : Nat) (xs : List Im) (s : ByteArray) (w : World) (hr : Ims w w.heap.size P xs) (hl : ImsFits xs) (hs : s.size ≤ 1048576) :
    Calls Try.prog 7 #[.slice P xs.length c, .string s] w fun e w' => e = .returned (tmV xs s) ∧ Below w.heap.size w w' := by
  by_cases hk : ListOk xs
  · by_cases hn : NameOk s
    · rw [tmV_yes ⟨hk, hn⟩]
      exact iTimesOf_yes P c xs s w hr hl hk hn
    · have HA := Lib.hid (iAreItems_any P c xs w hr hl)
      have HN := Lib.hid (fun w => iIsName_any s w hs)
      rw [pB_yes hk] at HA
      rw [pB_no hn] at HN
      have HV := Lib.hid (tmV_no (fun q : TmAsk xs s => hn q.name))
      clear hk hn hr hl
      go_enter Try.func7, Try.ntmps7
      go_wp2_with fail
      refine HA.out.mono ?_
      rintro e w1 ⟨rfl, hb1⟩
      have HB1 := Lib.hid hb1
      clear hb1 HA
      go_wp2_with fail
      refine (HN.out w1).mono ?_
      rintro e w2 ⟨rfl, hw⟩
      obtain rfl := hw
      clear HN
      go_wp2_with fail
      go_returns
      exact ⟨by rw [HV.out]; rfl, HB1.out⟩
  · have HA := Lib.hid (iAreItems_any P c xs w hr hl)
    rw [pB_no hk] at HA
    have HV := Lib.hid (tmV_no (fun q : TmAsk xs s => hk q.list))
    clear hk hr hl
    go_enter Try.func7, Try.ntmps7
    go_wp2_with fail
    refine HA.out.mono ?_
    rintro e w1 ⟨rfl, hb1⟩
    have HB1 := Lib.hid hb1
    clear hb1 HA
    go_wp2_with fail
    go_returns
    exact ⟨by rw [HV.out]; rfl, HB1.out⟩
end Go.Proofs.Ytpjimngdldnomaa
