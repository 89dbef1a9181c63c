/- The same names, in the model and in the program. -/
import Derived.Test.YtpmjfanalcaodaaItemW
import Derived.Lib.QuietBelow
namespace Go.Proofs.Ytpmjfanalcaodaa
open Go.ChangeShapes Go.WideShapes Go.ChangeAt Go.RowKit
set_option linter.unusedVariables false

theorem text_ne {a b : ByteArray} (h : ¬ a = b) : (!a.toList == b.toList) = true := by
  rw [Go.ByteArray.toList_eq, Go.ByteArray.toList_eq, Bool.not_eq_true', beq_eq_false_iff_ne]
  exact fun e => h (ByteArray.ext (Array.ext' e))

theorem l1SameS_len (A A' : Option Addr) (c c' n : Nat) (xs ys : List ByteArray) (hx : xs.length = n) (hy : ys.length = n) (w : World) (hr : Lst w w.heap.size A xs) (hr' : Lst w w.heap.size A' ys) (hl : n ≤ 1048576) :
    Calls Try.prog 122 #[.slice A n c, .slice A' n c'] w fun e w' => e = .returned (.bool (pB (ys = xs))) ∧ Below w.heap.size w w' := by
  have HR := Lib.hid hr
  have HR' := Lib.hid hr'
  have HX := Lib.hid hx
  have HY := Lib.hid hy
  clear hr hr' hx hy
  go_enter Try.func122, Try.ntmps122
  go_wp2
  go_loopw [13] (fun i wr => ∃ k m : Nat, k ≤ n ∧ i = .int .i64 k ∧ Hid (∀ j, j < k → it ys j = it xs j) ∧ wr = w.drewN m) (fun i _ => n - (intOf i).toNat)
  case atStart => exact ⟨0, 0, Nat.zero_le _, rfl, Lib.hid (fun j hj => absurd hj (by omega)), rfl⟩
  case round =>
    obtain ⟨k, m, hk, rfl, HI, rfl⟩ := hrel
    by_cases hlt : k < n
    · obtain ⟨b, o, rfl, hbl, hc⟩ := HR.out.str (by have := HX.out; omega)
      obtain ⟨b', o', rfl, hbl', hc'⟩ := HR'.out.str (by have := HY.out; omega)
      have hck := hc k (by have := HX.out; omega)
      have hck' := hc' k (by have := HY.out; omega)
      have hi1 : (0 : Int) ≤ (k : Int) := by omega
      have hi2 : (k : Int) < (n : Int) := by omega
      clear hc hc'
      by_cases e : it ys k = it xs k
      · rw [e] at hck'
        have HE := Lib.hid e
        clear e
        go_wp2
        go_quiet (fail)
        go_wp2
        go_roundw
        case rel => exact ⟨k + 1, _, by omega, by go_num, Lib.hid (fun j hj => by
          rcases Nat.lt_or_ge j k with h | h
          · exact HI.out j h
          · obtain rfl : j = k := by omega
            exact HE.out), rfl⟩
        case measure => simp [intOf]; omega
      · have HV := Lib.hid (pB_no (fun hh : ys = xs => e (by rw [hh])))
        have hd := text_ne (fun q => e q.symm)
        clear e
        go_wp2
        go_quiet (fail)
        go_wp2
        go_ret
        exact ⟨by rw [HV.out]; rfl, below_next (below_drewN _ _) (below_drewN _ _)⟩
    · obtain rfl : k = n := by omega
      have HV := Lib.hid (pB_yes (it_ext ys xs (by rw [HX.out, HY.out]) (fun i hi => HI.out i (by have := HY.out; omega))))
      go_wp2
      go_ret
      exact ⟨by rw [HV.out]; rfl, below_drewN _ _⟩
theorem l1SameS_any (A A' : Option Addr) (c c' : Nat) (xs ys : List ByteArray) (w : World) (hr : Lst w w.heap.size A xs) (hr' : Lst w w.heap.size A' ys) (hl : xs.length ≤ 1048576) (hl' : ys.length ≤ 1048576) :
    Calls Try.prog 122 #[.slice A xs.length c, .slice A' ys.length c'] w fun e w' => e = .returned (.bool (pB (ys = xs))) ∧ Below w.heap.size w w' := by
  rcases Nat.lt_trichotomy xs.length ys.length with h | h | h
  · have HV := Lib.hid (pB_no (fun hh : ys = xs => by rw [hh] at h; omega))
    clear hr hr'
    go_enter Try.func122, Try.ntmps122
    go_wp2
    go_ret
    exact ⟨by rw [HV.out]; rfl, Below.refl _ _⟩
  · have := l1SameS_len A A' c c' xs.length xs ys rfl h.symm w hr hr' hl
    rw [← h]
    exact this
  · have HV := Lib.hid (pB_no (fun hh : ys = xs => by rw [hh] at h; omega))
    clear hr hr'
    go_enter Try.func122, Try.ntmps122
    go_wp2
    go_ret
    exact ⟨by rw [HV.out]; rfl, Below.refl _ _⟩

theorem slicesEq_len (A A' : Option Addr) (c c' n : Nat) (xs ys : List ByteArray) (hx : xs.length = n) (hy : ys.length = n) (w : World) (hr : Lst w w.heap.size A xs) (hr' : Lst w w.heap.size A' ys) (hl : n ≤ 1048576) :
    Calls Try.prog 123 #[.slice A n c, .slice A' n c'] w fun e w' => e = .returned (.bool (pB (ys = xs))) ∧ Below w.heap.size w w' := by
  have HR := Lib.hid hr
  have HR' := Lib.hid hr'
  have HX := Lib.hid hx
  have HY := Lib.hid hy
  clear hr hr' hx hy
  go_enter Try.func123, Try.ntmps123
  go_wp2
  go_loopw [13] (fun i wr => ∃ k m : Nat, k ≤ n ∧ i = .int .i64 k ∧ Hid (∀ j, j < k → it ys j = it xs j) ∧ wr = w.drewN m) (fun i _ => n - (intOf i).toNat)
  case atStart => exact ⟨0, 0, Nat.zero_le _, rfl, Lib.hid (fun j hj => absurd hj (by omega)), rfl⟩
  case round =>
    obtain ⟨k, m, hk, rfl, HI, rfl⟩ := hrel
    by_cases hlt : k < n
    · obtain ⟨b, o, rfl, hbl, hc⟩ := HR.out.str (by have := HX.out; omega)
      obtain ⟨b', o', rfl, hbl', hc'⟩ := HR'.out.str (by have := HY.out; omega)
      have hck := hc k (by have := HX.out; omega)
      have hck' := hc' k (by have := HY.out; omega)
      have hi1 : (0 : Int) ≤ (k : Int) := by omega
      have hi2 : (k : Int) < (n : Int) := by omega
      clear hc hc'
      by_cases e : it ys k = it xs k
      · rw [e] at hck'
        have HE := Lib.hid e
        clear e
        go_wp2
        go_quiet (fail)
        go_wp2
        go_roundw
        case rel => exact ⟨k + 1, _, by omega, by go_num, Lib.hid (fun j hj => by
          rcases Nat.lt_or_ge j k with h | h
          · exact HI.out j h
          · obtain rfl : j = k := by omega
            exact HE.out), rfl⟩
        case measure => simp [intOf]; omega
      · have HV := Lib.hid (pB_no (fun hh : ys = xs => e (by rw [hh])))
        have hd := text_ne (fun q => e q.symm)
        clear e
        go_wp2
        go_quiet (fail)
        go_wp2
        go_ret
        exact ⟨by rw [HV.out]; rfl, below_next (below_drewN _ _) (below_drewN _ _)⟩
    · obtain rfl : k = n := by omega
      have HV := Lib.hid (pB_yes (it_ext ys xs (by rw [HX.out, HY.out]) (fun i hi => HI.out i (by have := HY.out; omega))))
      go_wp2
      go_ret
      exact ⟨by rw [HV.out]; rfl, below_drewN _ _⟩
theorem slicesEq_any (A A' : Option Addr) (c c' : Nat) (xs ys : List ByteArray) (w : World) (hr : Lst w w.heap.size A xs) (hr' : Lst w w.heap.size A' ys) (hl : xs.length ≤ 1048576) (hl' : ys.length ≤ 1048576) :
    Calls Try.prog 123 #[.slice A xs.length c, .slice A' ys.length c'] w fun e w' => e = .returned (.bool (pB (ys = xs))) ∧ Below w.heap.size w w' := by
  rcases Nat.lt_trichotomy xs.length ys.length with h | h | h
  · have HV := Lib.hid (pB_no (fun hh : ys = xs => by rw [hh] at h; omega))
    clear hr hr'
    go_enter Try.func123, Try.ntmps123
    go_wp2
    go_ret
    exact ⟨by rw [HV.out]; rfl, Below.refl _ _⟩
  · have := slicesEq_len A A' c c' xs.length xs ys rfl h.symm w hr hr' hl
    rw [← h]
    exact this
  · have HV := Lib.hid (pB_no (fun hh : ys = xs => by rw [hh] at h; omega))
    clear hr hr'
    go_enter Try.func123, Try.ntmps123
    go_wp2
    go_ret
    exact ⟨by rw [HV.out]; rfl, Below.refl _ _⟩

/-- The same names, item by item. -/
structure SameN (xs ys : List Im) : Prop where
  len : ys.length = xs.length
  each : ∀ i, i < xs.length → (it ys i).ns = (it xs i).ns
theorem haveSame_any (x y : Im) (w : World) (hx : ImIn w w.heap.size x) (hy : ImIn w w.heap.size y) (lx : ItFits x) (ly : ItFits y) :
    Calls Try.prog 95 #[x.val, y.val] w fun e w' => e = .returned (.bool (pB (y.ns = x.ns))) ∧ Below w.heap.size w w' := by
  have HR := Lib.hid hx
  have HR' := Lib.hid hy
  have HL := Lib.hid lx
  have HL' := Lib.hid ly
  clear hx hy lx ly
  unfold Im.val
  go_enter Try.func95, Try.ntmps95
  go_wp2_with fail
  generalize hW : World.alloc (World.alloc w _) _ = W
  have hB : Below w.heap.size w W := by
    rw [← hW]
    go_grown
  clear hW
  refine (slicesEq_any x.A y.A x.c y.c x.ns y.ns W (HR.out.next hB).ns (HR'.out.next hB).ns HL.out.ns.1 HL'.out.ns.1).mono ?_
  rintro e w2 ⟨rfl, hb2⟩
  have HB2 := Lib.hid (below_next hB hb2)
  clear hB hb2
  go_wp2
  go_ret
  exact ⟨rfl, HB2.out⟩

set_option maxHeartbeats 1000000 in
theorem itSame_len (P P' : Option Addr) (c c' n : Nat) (xs ys : List Im) (hx : xs.length = n) (hy : ys.length = n) (w : World) (hr : Ims w w.heap.size P xs) (hr' : Ims w w.heap.size P' ys) (hl : ImsFits xs) (hl' : ImsFits ys) :
    Calls Try.prog 93 #[.slice P n c, .slice P' n c'] w fun e w' => e = .returned (.bool (pB (SameN xs ys))) ∧ Below w.heap.size w w' := by
  have HR := Lib.hid hr
  have HR' := Lib.hid hr'
  have HX := Lib.hid hx
  have HY := Lib.hid hy
  have HF := Lib.hid hl
  have HF' := Lib.hid hl'
  have hn : n ≤ 1048576 := by have := hl.len; omega
  clear hr hr' hx hy hl hl'
  go_enter Try.func93, Try.ntmps93
  go_wp2
  go_loopw [13] (fun i wr => ∃ k : Nat, k ≤ n ∧ i = .int .i64 k ∧ Hid (∀ j, j < k → (it ys j).ns = (it xs j).ns) ∧ Below w.heap.size w wr) (fun i _ => n - (intOf i).toNat)
  case atStart => exact ⟨0, Nat.zero_le _, rfl, Lib.hid (fun j hj => absurd hj (by omega)), Below.refl _ _⟩
  case round =>
    obtain ⟨k, hk, rfl, HI, hb⟩ := hrel
    by_cases hlt : k < n
    · obtain ⟨b, o, rfl, hbl, hc⟩ := HR.out.out.im (by have := HX.out; omega)
      obtain ⟨b', o', rfl, hbl', hc'⟩ := HR'.out.out.im (by have := HY.out; omega)
      obtain ⟨c0, c1, c2⟩ := (hc k (by have := HX.out; omega)).below hb hbl
      have e' := (hc' k (by have := HY.out; omega)).below hb hbl'
      have E' := fun ob => e'.below (below_alloc wr ob) (Nat.lt_of_lt_of_le hbl' hb.size)
      obtain ⟨d0, d1, d2⟩ := e'
      have HE := Lib.hid ((HR.out.each k (by have := HX.out; omega)).next hb)
      have HE' := Lib.hid ((HR'.out.each k (by have := HY.out; omega)).next hb)
      have HL := Lib.hid (HF.out.each k (by have := HX.out; omega))
      have HL' := Lib.hid (HF'.out.each k (by have := HY.out; omega))
      have hi1 : (0 : Int) ≤ (k : Int) := by omega
      have hi2 : (k : Int) < (n : Int) := by omega
      have HB := Lib.hid hb
      have HC := Lib.hid (fun w1 (h1 : Lst w1 w1.heap.size (it xs k).A (it xs k).ns) (h2 : Lst w1 w1.heap.size (it ys k).A (it ys k).ns) => l1SameS_any (it xs k).A (it ys k).A (it xs k).c (it ys k).c (it xs k).ns (it ys k).ns w1 h1 h2 HL.out.ns.1 HL'.out.ns.1)
      have g0 := fun ob => (E' ob).c0
      have g1 := fun ob => (E' ob).c1
      have g2 := fun ob => (E' ob).c2
      clear hc hc' hb E'
      by_cases hok : (it ys k).ns = (it xs k).ns
      · rw [pB_yes hok] at HC
        have HO := Lib.hid hok
        clear hok
        (
          go_wp2
          go_region_with (go_at_call 122; (with_reducible refine (HC.out _ (HE.out.next (below_drew _)).ns (HE'.out.next (below_drew _)).ns).mono ?_); rintro e w1 ⟨rfl, hb1⟩)
          all_goals
            have HB1 := Lib.hid (HB.out.trans ((Below.refl _ _).drew.trans (hb1.mono (by exact HB.out.size))))
            clear hb1
            go_simp
            go_wp2
            go_roundw
            case rel => exact ⟨k + 1, by omega, by go_num, Lib.hid (fun j hj => by
            rcases Nat.lt_or_ge j k with h | h
            · exact HI.out j h
            · obtain rfl : j = k := by omega
              exact HO.out), HB1.out⟩
            case measure => simp [intOf]; omega
        )
      · rw [pB_no hok] at HC
        have HV := Lib.hid (pB_no (fun hh : SameN xs ys => hok (hh.each k (by have := HX.out; omega))))
        clear hok
        (
          go_wp2
          go_region_with (go_at_call 122; (with_reducible refine (HC.out _ (HE.out.next (below_drew _)).ns (HE'.out.next (below_drew _)).ns).mono ?_); rintro e w1 ⟨rfl, hb1⟩)
          all_goals
            have HB1 := Lib.hid (HB.out.trans ((Below.refl _ _).drew.trans (hb1.mono (by exact HB.out.size))))
            clear hb1
            go_simp
            go_wp2
            go_ret
            exact ⟨by rw [HV.out]; rfl, HB1.out⟩
        )
    · obtain rfl : k = n := by omega
      have HV := Lib.hid (pB_yes (⟨by rw [HX.out, HY.out], fun i hi => HI.out i (by have := HX.out; omega)⟩ : SameN xs ys))
      go_wp2
      go_ret
      exact ⟨by rw [HV.out]; rfl, hb⟩
theorem itSame_any (P P' : Option Addr) (c c' : Nat) (xs ys : List Im) (w : World) (hr : Ims w w.heap.size P xs) (hr' : Ims w w.heap.size P' ys) (hl : ImsFits xs) (hl' : ImsFits ys) :
    Calls Try.prog 93 #[.slice P xs.length c, .slice P' ys.length c'] w fun e w' => e = .returned (.bool (pB (SameN xs ys))) ∧ Below w.heap.size w w' := by
  have l1 := hl.len
  have l2 := hl'.len
  rcases Nat.lt_trichotomy xs.length ys.length with h | h | h
  · have HV := Lib.hid (pB_no (fun hh : SameN xs ys => by have := hh.len; omega))
    clear hr hr' hl hl'
    go_enter Try.func93, Try.ntmps93
    go_wp2
    go_ret
    exact ⟨by rw [HV.out]; rfl, Below.refl _ _⟩
  · have := itSame_len P P' c c' xs.length xs ys rfl h.symm w hr hr' hl hl'
    rw [← h]
    exact this
  · have HV := Lib.hid (pB_no (fun hh : SameN xs ys => by have := hh.len; omega))
    clear hr hr' hl hl'
    go_enter Try.func93, Try.ntmps93
    go_wp2
    go_ret
    exact ⟨by rw [HV.out]; rfl, Below.refl _ _⟩

set_option maxHeartbeats 1000000 in
theorem equalFunc_len (P P' : Option Addr) (c c' n : Nat) (xs ys : List Im) (hx : xs.length = n) (hy : ys.length = n) (w : World) (hr : Ims w w.heap.size P xs) (hr' : Ims w w.heap.size P' ys) (hl : ImsFits xs) (hl' : ImsFits ys) :
    Calls Try.prog 94 #[.slice P n c, .slice P' n c', .func (.func 95) #[] #[]] w fun e w' => e = .returned (.bool (pB (SameN xs ys))) ∧ Below w.heap.size w w' := by
  have HR := Lib.hid hr
  have HR' := Lib.hid hr'
  have HX := Lib.hid hx
  have HY := Lib.hid hy
  have HF := Lib.hid hl
  have HF' := Lib.hid hl'
  have hn : n ≤ 1048576 := by have := hl.len; omega
  clear hr hr' hx hy hl hl'
  go_enter Try.func94, Try.ntmps94
  go_wp2
  go_loopw [17] (fun i wr => ∃ k : Nat, k ≤ n ∧ i = .int .i64 k ∧ Hid (∀ j, j < k → (it ys j).ns = (it xs j).ns) ∧ Below w.heap.size w wr) (fun i _ => n - (intOf i).toNat)
  case atStart => exact ⟨0, Nat.zero_le _, rfl, Lib.hid (fun j hj => absurd hj (by omega)), Below.refl _ _⟩
  case round =>
    obtain ⟨k, hk, rfl, HI, hb⟩ := hrel
    by_cases hlt : k < n
    · obtain ⟨b, o, rfl, hbl, hc⟩ := HR.out.out.im (by have := HX.out; omega)
      obtain ⟨b', o', rfl, hbl', hc'⟩ := HR'.out.out.im (by have := HY.out; omega)
      obtain ⟨c0, c1, c2⟩ := (hc k (by have := HX.out; omega)).below hb hbl
      have e' := (hc' k (by have := HY.out; omega)).below hb hbl'
      have E' := fun ob => e'.below (below_alloc wr ob) (Nat.lt_of_lt_of_le hbl' hb.size)
      obtain ⟨d0, d1, d2⟩ := e'
      have HE := Lib.hid ((HR.out.each k (by have := HX.out; omega)).next hb)
      have HE' := Lib.hid ((HR'.out.each k (by have := HY.out; omega)).next hb)
      have HL := Lib.hid (HF.out.each k (by have := HX.out; omega))
      have HL' := Lib.hid (HF'.out.each k (by have := HY.out; omega))
      have hi1 : (0 : Int) ≤ (k : Int) := by omega
      have hi2 : (k : Int) < (n : Int) := by omega
      have HB := Lib.hid hb
      have HC := Lib.hid (fun w1 (h1 : ImIn w1 w1.heap.size (it xs k)) (h2 : ImIn w1 w1.heap.size (it ys k)) => haveSame_any (it xs k) (it ys k) w1 h1 h2 HL.out HL'.out)
      have g0 := fun ob => (E' ob).c0
      have g1 := fun ob => (E' ob).c1
      have g2 := fun ob => (E' ob).c2
      clear hc hc' hb E'
      by_cases hok : (it ys k).ns = (it xs k).ns
      · rw [pB_yes hok] at HC
        have HO := Lib.hid hok
        clear hok
        (
          go_wp2_with (go_at_call 95; refine (HC.out _ (HE.out.next (below_next (below_alloc _ _) (below_alloc _ _))) (HE'.out.next (below_next (below_alloc _ _) (below_alloc _ _)))).mono ?_; rintro e w1 ⟨rfl, hb1⟩; have HB1 := Lib.hid (below_next HB.out (below_next (below_next (below_alloc _ _) (below_alloc _ _)) hb1)); clear hb1)
          go_roundw
          case rel => exact ⟨k + 1, by omega, by go_num, Lib.hid (fun j hj => by
            rcases Nat.lt_or_ge j k with h | h
            · exact HI.out j h
            · obtain rfl : j = k := by omega
              exact HO.out), HB1.out⟩
          case measure => simp [intOf]; omega
        )
      · rw [pB_no hok] at HC
        have HV := Lib.hid (pB_no (fun hh : SameN xs ys => hok (hh.each k (by have := HX.out; omega))))
        clear hok
        (
          go_wp2_with (go_at_call 95; refine (HC.out _ (HE.out.next (below_next (below_alloc _ _) (below_alloc _ _))) (HE'.out.next (below_next (below_alloc _ _) (below_alloc _ _)))).mono ?_; rintro e w1 ⟨rfl, hb1⟩; have HB1 := Lib.hid (below_next HB.out (below_next (below_next (below_alloc _ _) (below_alloc _ _)) hb1)); clear hb1)
          go_ret
          exact ⟨by rw [HV.out]; rfl, HB1.out⟩
        )
    · obtain rfl : k = n := by omega
      have HV := Lib.hid (pB_yes (⟨by rw [HX.out, HY.out], fun i hi => HI.out i (by have := HX.out; omega)⟩ : SameN xs ys))
      go_wp2
      go_ret
      exact ⟨by rw [HV.out]; rfl, hb⟩
theorem equalFunc_any (P P' : Option Addr) (c c' : Nat) (xs ys : List Im) (w : World) (hr : Ims w w.heap.size P xs) (hr' : Ims w w.heap.size P' ys) (hl : ImsFits xs) (hl' : ImsFits ys) :
    Calls Try.prog 94 #[.slice P xs.length c, .slice P' ys.length c', .func (.func 95) #[] #[]] w fun e w' => e = .returned (.bool (pB (SameN xs ys))) ∧ Below w.heap.size w w' := by
  have l1 := hl.len
  have l2 := hl'.len
  rcases Nat.lt_trichotomy xs.length ys.length with h | h | h
  · have HV := Lib.hid (pB_no (fun hh : SameN xs ys => by have := hh.len; omega))
    clear hr hr' hl hl'
    go_enter Try.func94, Try.ntmps94
    go_wp2
    go_ret
    exact ⟨by rw [HV.out]; rfl, Below.refl _ _⟩
  · have := equalFunc_len P P' c c' xs.length xs ys rfl h.symm w hr hr' hl hl'
    rw [← h]
    exact this
  · have HV := Lib.hid (pB_no (fun hh : SameN xs ys => by have := hh.len; omega))
    clear hr hr' hl hl'
    go_enter Try.func94, Try.ntmps94
    go_wp2
    go_ret
    exact ⟨by rw [HV.out]; rfl, Below.refl _ _⟩
end Go.Proofs.Ytpmjfanalcaodaa
