/- Valid items and lists, in the model and in the program. -/
import Derived.Test.YtbhfhjhegcfdkaaItemE
import Derived.Test.YtbhfhjhegcfdkaaNam
namespace Go.Proofs.Ytbhfhjhegcfdkaa
open Go.ChangeShapes Go.WideShapes Go.ChangeAt Go.RowKit
set_option linter.unusedVariables false

def MkOk (v : Int) : Prop := 0 ≤ v ∧ v ≤ 3
structure ItOk (ns : List ByteArray) (ms : List Int) : Prop where
  lo : 1 ≤ ns.length
  hi : ns.length ≤ 3
  eq : ms.length = ns.length
  nm : ∀ i, i < ns.length → NameOk (it ns i)
  mks : ∀ i, i < ms.length → MkOk (it ms i)
theorem l1All_marks (A : Option Addr) (c : Nat) (xs : List Int) (w : World) (hr : Lst w w.heap.size A xs) (hl : xs.length ≤ 1048576) :
    Calls Try.prog 61 #[.slice A xs.length c, .int .i64 0, .int .i64 3] w fun e w' => e = .returned (.bool (pB (∀ i, i < xs.length → MkOk (it xs i)))) ∧ w = w' := by
  have HR := Lib.hid hr
  clear hr
  go_enter Try.func61, Try.ntmps61
  go_wp2
  go_loop [11] (fun i => ∃ k : Nat, k ≤ xs.length ∧ i = .int .i64 k ∧ Hid (∀ j, j < k → MkOk (it xs j))) (fun i => xs.length - (intOf i).toNat)
  case atStart => exact ⟨0, Nat.zero_le _, rfl, Lib.hid (fun j hj => absurd hj (by omega))⟩
  case round =>
    obtain ⟨k, hk, rfl, HI⟩ := hrel
    by_cases hlt : k < xs.length
    · obtain ⟨b, o, rfl, hbl, hc⟩ := HR.out.int (by omega)
      have hck := hc k hlt
      clear hc
      by_cases h : 0 ≤ it xs k ∧ it xs k ≤ 3
      · obtain ⟨h1, h2⟩ := h
        go_wp2_with (go_at_call 62; refine (l1In_yes _ _ _ _ (by omega) (by omega)).mono ?_; rintro e w2 ⟨rfl, rfl⟩)
        go_round
        case rel => exact ⟨k + 1, by omega, by go_num, Lib.hid (fun j hj => by
          rcases Nat.lt_or_ge j k with h | h
          · exact HI.out j h
          · obtain rfl : j = k := by omega
            exact ⟨h1, h2⟩)⟩
        case measure => simp [intOf]; omega
      · have HV := Lib.hid (pB_no (fun hh : ∀ i, i < xs.length → MkOk (it xs i) => h (hh k hlt)))
        go_wp2_with (go_at_call 62; refine (l1In_no _ _ _ _ (by omega)).mono ?_; rintro e w2 ⟨rfl, rfl⟩)
        go_ret
        exact ⟨by rw [HV.out]; rfl, rfl⟩
    · obtain rfl : k = xs.length := by omega
      have HV := Lib.hid (pB_yes HI.out)
      go_wp2
      go_ret
      exact ⟨by rw [HV.out]; rfl, rfl⟩
theorem l1AllM_len (A : Option Addr) (c n : Nat) (xs : List Int) (hn : xs.length = n) (w : World) (hr : Lst w w.heap.size A xs) (hl : n ≤ 1048576) :
    Calls Try.prog 61 #[.slice A n c, .int .i64 0, .int .i64 3] w fun e w' => e = .returned (.bool (pB (∀ i, i < xs.length → MkOk (it xs i)))) ∧ w = w' := by
  subst hn
  exact l1All_marks A c xs w hr hl

theorem itGood_eq (A : Option Addr) (c : Nat) (L : Option Addr) (d : Nat) (ns : List ByteArray) (ms : List Int) (lt : Bool) (w : World) (he : ms.length = ns.length) (hr : ImIn w w.heap.size ⟨A, c, L, d, ns, ms, lt⟩) (hl : ItFits ⟨A, c, L, d, ns, ms, lt⟩) :
    Calls Try.prog 74 #[.agg #[.slice A ns.length c, .slice L ns.length d, .bool lt]] w fun e w' => e = .returned (.bool (pB (ItOk ns ms))) ∧ Below w.heap.size w w' := by
  have hb0 := below_alloc w (.cells #[.slice A ns.length c, .slice L ns.length d, .bool lt] 56)
  have HN : Hid (Lst _ _ A ns) := Lib.hid (hr.next hb0).ns
  have HM : Hid (Lst _ _ L ms) := Lib.hid (hr.next hb0).ms
  have HZ : Hid (∀ i, i < ns.length → (it ns i).size ≤ 1048576) := Lib.hid hl.ns.2
  have hl1 : ns.length ≤ 1048576 := hl.ns.1
  have HB0 := Lib.hid hb0
  have HE := Lib.hid he
  clear hr hl hb0 he
  go_enter Try.func74, Try.ntmps74
  go_wp2
  go_loop [8] (fun i => ∃ k : Nat, k ≤ ns.length ∧ i = .int .i64 k ∧ Hid (∀ j, j < k → NameOk (it ns j))) (fun i => ns.length - (intOf i).toNat)
  case atStart => exact ⟨0, Nat.zero_le _, rfl, Lib.hid (fun j hj => absurd hj (by omega))⟩
  case round =>
    obtain ⟨k, hk, rfl, HI⟩ := hrel
    by_cases hlt : k < ns.length
    · obtain ⟨b, o, rfl, hbl, hc⟩ := HN.out.str (by omega)
      have hck := hc k hlt
      have hz := HZ.out k hlt
      clear hc
      by_cases h : NameOk (it ns k)
      · have HC := Lib.hid (itName_any (it ns k))
        rw [pB_yes h] at HC
        have HL := Lib.hid h
        clear h
        go_wp2_with (go_at_call 80; refine (HC.out _ hz).mono ?_; rintro e w2 ⟨rfl, rfl⟩)
        go_round
        case rel => exact ⟨k + 1, by omega, by go_num, Lib.hid (fun j hj => by
          rcases Nat.lt_or_ge j k with h | h
          · exact HI.out j h
          · obtain rfl : j = k := by omega
            exact HL.out)⟩
        case measure => simp [intOf]; omega
      · have HV := Lib.hid (pB_no (fun hh : ItOk ns ms => h (hh.nm k hlt)))
        have HC := Lib.hid (itName_any (it ns k))
        rw [pB_no h] at HC
        clear h
        go_wp2_with (go_at_call 80; refine (HC.out _ hz).mono ?_; rintro e w2 ⟨rfl, rfl⟩)
        go_ret
        exact ⟨by rw [HV.out]; rfl, HB0.out⟩
    · obtain rfl : k = ns.length := by omega
      by_cases h : 1 ≤ ns.length ∧ ns.length ≤ 3
      · obtain ⟨h1, h2⟩ := h
        have HC := Lib.hid (l1AllM_len L d ns.length ms HE.out _ HM.out hl1)
        by_cases ha : ∀ i, i < ms.length → MkOk (it ms i)
        · have HV := Lib.hid (pB_yes (⟨h1, h2, HE.out, HI.out, ha⟩ : ItOk ns ms))
          rw [pB_yes ha] at HC
          clear ha
          go_wp2_with (first | (go_at_call 62; refine (l1In_yes _ _ _ _ (by omega) (by omega)).mono ?_; rintro e w' ⟨rfl, rfl⟩) | (go_at_call 61; refine HC.out.mono ?_; rintro e w' ⟨rfl, rfl⟩))
          go_ret
          exact ⟨by rw [HV.out]; rfl, HB0.out⟩
        · have HV := Lib.hid (pB_no (fun h' : ItOk ns ms => ha h'.mks))
          rw [pB_no ha] at HC
          clear ha
          go_wp2_with (first | (go_at_call 62; refine (l1In_yes _ _ _ _ (by omega) (by omega)).mono ?_; rintro e w' ⟨rfl, rfl⟩) | (go_at_call 61; refine HC.out.mono ?_; rintro e w' ⟨rfl, rfl⟩))
          go_ret
          exact ⟨by rw [HV.out]; rfl, HB0.out⟩
      · have HV := Lib.hid (pB_no (fun h' : ItOk ns ms => h ⟨h'.lo, h'.hi⟩))
        go_wp2_with (go_at_call 62; refine (l1In_no _ _ _ _ (by omega)).mono ?_; rintro e w' ⟨rfl, rfl⟩)
        go_ret
        exact ⟨by rw [HV.out]; rfl, HB0.out⟩
theorem itGood_ne (A : Option Addr) (c : Nat) (L : Option Addr) (d : Nat) (ns : List ByteArray) (ms : List Int) (lt : Bool) (w : World) (he : ¬ ms.length = ns.length) (hr : ImIn w w.heap.size ⟨A, c, L, d, ns, ms, lt⟩) (hl : ItFits ⟨A, c, L, d, ns, ms, lt⟩) :
    Calls Try.prog 74 #[.agg #[.slice A ns.length c, .slice L ms.length d, .bool lt]] w fun e w' => e = .returned (.bool (pB (ItOk ns ms))) ∧ Below w.heap.size w w' := by
  have hb0 := below_alloc w (.cells #[.slice A ns.length c, .slice L ms.length d, .bool lt] 56)
  have HN : Hid (Lst _ _ A ns) := Lib.hid (hr.next hb0).ns
  have HM : Hid (Lst _ _ L ms) := Lib.hid (hr.next hb0).ms
  have HZ : Hid (∀ i, i < ns.length → (it ns i).size ≤ 1048576) := Lib.hid hl.ns.2
  have hl1 : ns.length ≤ 1048576 := hl.ns.1
  have HB0 := Lib.hid hb0
  have hl2 : ms.length ≤ 1048576 := hl.ms
  clear hr hl hb0
  go_enter Try.func74, Try.ntmps74
  go_wp2
  go_loop [8] (fun i => ∃ k : Nat, k ≤ ns.length ∧ i = .int .i64 k ∧ Hid (∀ j, j < k → NameOk (it ns j))) (fun i => ns.length - (intOf i).toNat)
  case atStart => exact ⟨0, Nat.zero_le _, rfl, Lib.hid (fun j hj => absurd hj (by omega))⟩
  case round =>
    obtain ⟨k, hk, rfl, HI⟩ := hrel
    by_cases hlt : k < ns.length
    · obtain ⟨b, o, rfl, hbl, hc⟩ := HN.out.str (by omega)
      have hck := hc k hlt
      have hz := HZ.out k hlt
      clear hc
      by_cases h : NameOk (it ns k)
      · have HC := Lib.hid (itName_any (it ns k))
        rw [pB_yes h] at HC
        have HL := Lib.hid h
        clear h
        go_wp2_with (go_at_call 80; refine (HC.out _ hz).mono ?_; rintro e w2 ⟨rfl, rfl⟩)
        go_round
        case rel => exact ⟨k + 1, by omega, by go_num, Lib.hid (fun j hj => by
          rcases Nat.lt_or_ge j k with h | h
          · exact HI.out j h
          · obtain rfl : j = k := by omega
            exact HL.out)⟩
        case measure => simp [intOf]; omega
      · have HV := Lib.hid (pB_no (fun hh : ItOk ns ms => h (hh.nm k hlt)))
        have HC := Lib.hid (itName_any (it ns k))
        rw [pB_no h] at HC
        clear h
        go_wp2_with (go_at_call 80; refine (HC.out _ hz).mono ?_; rintro e w2 ⟨rfl, rfl⟩)
        go_ret
        exact ⟨by rw [HV.out]; rfl, HB0.out⟩
    · obtain rfl : k = ns.length := by omega
      by_cases h : 1 ≤ ns.length ∧ ns.length ≤ 3
      · obtain ⟨h1, h2⟩ := h
        have HV := Lib.hid (pB_no (fun h' : ItOk ns ms => he h'.eq))
        have hne : (ms.length : Int) ≠ (ns.length : Int) := by omega
        go_wp2_with (go_at_call 62; refine (l1In_yes _ _ _ _ (by omega) (by omega)).mono ?_; rintro e w' ⟨rfl, rfl⟩)
        go_ret
        exact ⟨by rw [HV.out]; rfl, HB0.out⟩
      · have HV := Lib.hid (pB_no (fun h' : ItOk ns ms => h ⟨h'.lo, h'.hi⟩))
        go_wp2_with (go_at_call 62; refine (l1In_no _ _ _ _ (by omega)).mono ?_; rintro e w' ⟨rfl, rfl⟩)
        go_ret
        exact ⟨by rw [HV.out]; rfl, HB0.out⟩
theorem itGood_any (x : Im) (w : World) (hr : ImIn w w.heap.size x) (hl : ItFits x) :
    Calls Try.prog 74 #[x.val] w fun e w' => e = .returned (.bool (pB (ItOk x.ns x.ms))) ∧ Below w.heap.size w w' := by
  obtain ⟨A, c, L, d, ns, ms, lt⟩ := x
  by_cases he : ms.length = ns.length
  · have := itGood_eq A c L d ns ms lt w he hr hl
    rw [← he] at this
    rw [show (Im.val ⟨A, c, L, d, ns, ms, lt⟩) = .agg #[.slice A ms.length c, .slice L ms.length d, .bool lt] by show Value.agg _ = _; rw [he]]
    exact this
  · exact itGood_ne A c L d ns ms lt w he hr hl

theorem isMark_yes (v : Int) (w : World) (h : MkOk v) :
    Calls Try.prog 78 #[.int .i64 v] w fun e w' => e = .returned (.bool true) ∧ w = w' := by
  obtain ⟨h1, h2⟩ := h
  go_enter Try.func78, Try.ntmps78
  go_wp2
  go_ret
  exact ⟨by first | rfl | (simp; omega) | simp, rfl⟩
theorem isMark_no (v : Int) (w : World) (h : ¬ MkOk v) :
    Calls Try.prog 78 #[.int .i64 v] w fun e w' => e = .returned (.bool false) ∧ w = w' := by
  unfold MkOk at h
  by_cases h1 : 0 ≤ v
  · have h2 : 3 < v := by omega
    go_enter Try.func78, Try.ntmps78
    go_wp2
    go_ret
    exact ⟨by first | rfl | (simp; omega) | simp, rfl⟩
  · have h2 : v < 0 := by omega
    go_enter Try.func78, Try.ntmps78
    go_wp2
    go_ret
    exact ⟨by first | rfl | (simp; omega) | simp, rfl⟩

theorem iIsItem_eq (A : Option Addr) (c : Nat) (L : Option Addr) (d : Nat) (ns : List ByteArray) (ms : List Int) (lt : Bool) (w : World) (he : ms.length = ns.length) (hr : ImIn w w.heap.size ⟨A, c, L, d, ns, ms, lt⟩) (hl : ItFits ⟨A, c, L, d, ns, ms, lt⟩) :
    Calls Try.prog 70 #[.agg #[.slice A ns.length c, .slice L ns.length d, .bool lt]] w fun e w' => e = .returned (.bool (pB (ItOk ns ms))) ∧ Below w.heap.size w w' := by
  have hb0 := below_alloc w (.cells #[.slice A ns.length c, .slice L ns.length d, .bool lt] 56)
  have HN : Hid (Lst _ _ A ns) := Lib.hid (hr.next hb0).ns
  have HM : Hid (Lst _ _ L ms) := Lib.hid (hr.next hb0).ms
  have HZ : Hid (∀ i, i < ns.length → (it ns i).size ≤ 1048576) := Lib.hid hl.ns.2
  have hl1 : ns.length ≤ 1048576 := hl.ns.1
  have HB0 := Lib.hid hb0
  have HE := Lib.hid he
  clear hr hl hb0 he
  by_cases h : 1 ≤ ns.length ∧ ns.length ≤ 3
  · obtain ⟨h1, h2⟩ := h
    go_enter Try.func70, Try.ntmps70
    go_wp2
    go_loop [27] (fun i => ∃ k : Nat, k ≤ ns.length ∧ i = .int .i64 k ∧ Hid (∀ j, j < k → NameOk (it ns j) ∧ MkOk (it ms j))) (fun i => ns.length - (intOf i).toNat)
    case atStart => exact ⟨0, Nat.zero_le _, rfl, Lib.hid (fun j hj => absurd hj (by omega))⟩
    case round =>
      obtain ⟨k, hk, rfl, HI⟩ := hrel
      by_cases hlt : k < ns.length
      · obtain ⟨b, o, rfl, hbl, hc⟩ := HN.out.str (by omega)
        obtain ⟨b', o', rfl, hbl', hc'⟩ := HM.out.int (by have := HE.out; omega)
        have hck := hc k hlt
        have hck' := hc' k (by have := HE.out; omega)
        have hz := HZ.out k hlt
        have q1 : (0 : Int) ≤ (k : Int) := by omega
        have q2 : (k : Int) < (ns.length : Int) := by omega
        clear hc hc'
        have HC := Lib.hid (iIsName_any (it ns k))
        by_cases h : NameOk (it ns k)
        · rw [pB_yes h] at HC
          by_cases hm : MkOk (it ms k)
          · have HL := Lib.hid (And.intro h hm)
            clear h hm
            go_wp2_with (first | (go_at_call 79; refine (HC.out _ hz).mono ?_; rintro e w2 ⟨rfl, rfl⟩) | (go_at_call 78; refine (isMark_yes _ _ HL.out.2).mono ?_; rintro e w2 ⟨rfl, rfl⟩))
            go_round
            case rel => exact ⟨k + 1, by omega, by go_num, Lib.hid (fun j hj => by
              rcases Nat.lt_or_ge j k with h | h
              · exact HI.out j h
              · obtain rfl : j = k := by omega
                exact HL.out)⟩
            case measure => simp [intOf]; omega
          · have HV := Lib.hid (pB_no (fun hh : ItOk ns ms => hm (hh.mks k (by have := HE.out; omega))))
            have HM' := Lib.hid hm
            clear h hm
            go_wp2_with (first | (go_at_call 79; refine (HC.out _ hz).mono ?_; rintro e w2 ⟨rfl, rfl⟩) | (go_at_call 78; refine (isMark_no _ _ HM'.out).mono ?_; rintro e w2 ⟨rfl, rfl⟩))
            go_ret
            exact ⟨by rw [HV.out]; rfl, HB0.out⟩
        · rw [pB_no h] at HC
          have HV := Lib.hid (pB_no (fun hh : ItOk ns ms => h (hh.nm k hlt)))
          clear h
          go_wp2_with (go_at_call 79; refine (HC.out _ hz).mono ?_; rintro e w2 ⟨rfl, rfl⟩)
          go_ret
          exact ⟨by rw [HV.out]; rfl, HB0.out⟩
      · obtain rfl : k = ns.length := by omega
        have HV := Lib.hid (pB_yes (⟨h1, h2, HE.out, fun i hi => (HI.out i hi).1, fun i hi => (HI.out i (by have := HE.out; omega)).2⟩ : ItOk ns ms))
        go_wp2
        go_ret
        exact ⟨by rw [HV.out]; rfl, HB0.out⟩
  · have HV := Lib.hid (pB_no (fun h' : ItOk ns ms => h ⟨h'.lo, h'.hi⟩))
    by_cases h1 : 1 ≤ ns.length
    · have h2 : 3 < ns.length := by omega
      go_enter Try.func70, Try.ntmps70
      go_wp2
      go_ret
      exact ⟨by rw [HV.out]; rfl, HB0.out⟩
    · have h2 : ns.length < 1 := by omega
      go_enter Try.func70, Try.ntmps70
      go_wp2
      go_ret
      exact ⟨by rw [HV.out]; rfl, HB0.out⟩
theorem iIsItem_ne (A : Option Addr) (c : Nat) (L : Option Addr) (d : Nat) (ns : List ByteArray) (ms : List Int) (lt : Bool) (w : World) (he : ¬ ms.length = ns.length) (hr : ImIn w w.heap.size ⟨A, c, L, d, ns, ms, lt⟩) (hl : ItFits ⟨A, c, L, d, ns, ms, lt⟩) :
    Calls Try.prog 70 #[.agg #[.slice A ns.length c, .slice L ms.length d, .bool lt]] w fun e w' => e = .returned (.bool (pB (ItOk ns ms))) ∧ Below w.heap.size w w' := by
  have hb0 := below_alloc w (.cells #[.slice A ns.length c, .slice L ms.length d, .bool lt] 56)
  have HN : Hid (Lst _ _ A ns) := Lib.hid (hr.next hb0).ns
  have HM : Hid (Lst _ _ L ms) := Lib.hid (hr.next hb0).ms
  have HZ : Hid (∀ i, i < ns.length → (it ns i).size ≤ 1048576) := Lib.hid hl.ns.2
  have hl1 : ns.length ≤ 1048576 := hl.ns.1
  have HB0 := Lib.hid hb0
  have hl2 : ms.length ≤ 1048576 := hl.ms
  clear hr hl hb0
  by_cases h : 1 ≤ ns.length ∧ ns.length ≤ 3
  · obtain ⟨h1, h2⟩ := h
    have HV := Lib.hid (pB_no (fun h' : ItOk ns ms => he h'.eq))
    have hne : (ms.length : Int) ≠ (ns.length : Int) := by omega
    go_enter Try.func70, Try.ntmps70
    go_wp2
    · go_ret
      exact ⟨by rw [HV.out]; rfl, HB0.out⟩
    · exfalso
      have h4 := (‹(1 ≤ (ns.length : Int) ∧ (ns.length : Int) ≤ 3) ∧ ((ms.length : Int) != (ns.length : Int)) = false›).2
      simp at h4
      omega
  · have HV := Lib.hid (pB_no (fun h' : ItOk ns ms => h ⟨h'.lo, h'.hi⟩))
    by_cases h1 : 1 ≤ ns.length
    · have h2 : 3 < ns.length := by omega
      go_enter Try.func70, Try.ntmps70
      go_wp2
      go_ret
      exact ⟨by rw [HV.out]; rfl, HB0.out⟩
    · have h2 : ns.length < 1 := by omega
      go_enter Try.func70, Try.ntmps70
      go_wp2
      go_ret
      exact ⟨by rw [HV.out]; rfl, HB0.out⟩
theorem iIsItem_any (x : Im) (w : World) (hr : ImIn w w.heap.size x) (hl : ItFits x) :
    Calls Try.prog 70 #[x.val] w fun e w' => e = .returned (.bool (pB (ItOk x.ns x.ms))) ∧ Below w.heap.size w w' := by
  obtain ⟨A, c, L, d, ns, ms, lt⟩ := x
  by_cases he : ms.length = ns.length
  · have := iIsItem_eq A c L d ns ms lt w he hr hl
    rw [← he] at this
    rw [show (Im.val ⟨A, c, L, d, ns, ms, lt⟩) = .agg #[.slice A ms.length c, .slice L ms.length d, .bool lt] by show Value.agg _ = _; rw [he]]
    exact this
  · exact iIsItem_ne A c L d ns ms lt w he hr hl

end Go.Proofs.Ytbhfhjhegcfdkaa
