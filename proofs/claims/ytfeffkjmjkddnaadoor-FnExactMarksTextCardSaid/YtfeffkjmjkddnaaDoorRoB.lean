/- Lists of lists of ints: measured, copied, compared, marked, held. -/
import Derived.Test.YtfeffkjmjkddnaaDoorItemE
import Derived.Test.YtfeffkjmjkddnaaDoorRoA
import Derived.RegionTactic
import Derived.Deep.RegionHeld3
namespace Go.Proofs.YtfeffkjmjkddnaaDoor
open Go.ChangeShapes Go.WideShapes Go.ChangeAt Go.RowKit
set_option linter.unusedVariables false

theorem szIntS_r (r : Rw Int) (left : Int) (w : World) (hr : Nst.In w w.heap.size r) (hl : Nst.Len r) (h0 : 0 ≤ left) (h1 : left ≤ 1048576) :
    Calls Tryd.prog 26 #[.slice r.A r.xs.length r.c, .int .i64 left] w fun e w' => (∃ q : Int, e = .returned (.int .i64 q) ∧ (q < 0 ∨ 0 ≤ q ∧ q + ((Nst.wt r : Nat) : Int) ≤ left)) ∧ Below w.heap.size w w' := by
  obtain ⟨A, c, xs⟩ := r
  replace hl : xs.length ≤ 9223372036854775807 := hl
  show Calls Tryd.prog 26 #[.slice A xs.length c, .int .i64 left] w fun e w' => (∃ q : Int, e = .returned (.int .i64 q) ∧ (q < 0 ∨ 0 ≤ q ∧ q + (xs.length : Int) ≤ left)) ∧ Below w.heap.size w w'
  clear hr
  go_enter Tryd.func26, Tryd.ntmps26
  by_cases h : left - (xs.length : Int) < 0
  · go_wp2
    go_ret
    exact ⟨⟨_, rfl, by omega⟩, Below.refl _ _⟩
  · go_wp2
    go_ret
    exact ⟨⟨_, rfl, by omega⟩, Below.refl _ _⟩
theorem toIntS_r (r : Rw Int) (w : World) (hr : Nst.In w w.heap.size r) (hl : NFit r) :
    Calls Tryd.prog 30 #[.slice r.A r.xs.length r.c] w fun e w' => (∃ y : Rw Int, e = .returned (.slice y.A y.xs.length y.c) ∧ Nst.Eqv r y ∧ Nst.Own (iv w.heap.size w'.heap.size) w' y) ∧ Below w.heap.size w w' := by
  refine (toIntS_any r.A r.c r.xs w hr hl).mono ?_
  rintro e w' ⟨rfl, ho, hs, hb⟩
  exact ⟨⟨⟨some ⟨w.heap.size, 0, none⟩, r.xs.length, r.xs⟩, rfl, rfl, fun _ => ⟨w.heap.size, 0, rfl, ⟨Nat.le_refl _, hs⟩, hs, ho⟩⟩, hb⟩
theorem eqIntS_r (r s : Rw Int) (w : World) (he : Nst.Eqv r s) (hr : Nst.In w w.heap.size r) (hs : Nst.In w w.heap.size s) (hl : NFit r) :
    Calls Tryd.prog 35 #[.slice r.A r.xs.length r.c, .slice s.A s.xs.length s.c] w fun e w' => e = .returned (.bool true) ∧ Below w.heap.size w w' := by
  obtain ⟨A, c, xs⟩ := r
  obtain ⟨A', c', ys⟩ := s
  obtain rfl : ys = xs := he
  exact eqIntS_b A A' c c' ys w hr hs hl
theorem markIntS_r (S : Nat → Prop) (r : Rw Int) (m : Int) (k : Nat) (w : World) (hm : m = (k : Int)) (hr : Nst.Own S w r) (hl : NFit r) (hk2 : k ≤ 1000000000000000) :
    Calls Tryd.prog 40 #[.slice r.A r.xs.length r.c, .int .i64 m] w fun e w' => e = .returned (.int .i64 ((k + Nst.cnt r : Nat) : Int)) ∧ Nst.Own S w' (Nst.mkd k r) ∧ Only S w w' := by
  subst hm
  refine (markIntS_any S r.A r.c r.xs k w hr hl (by omega) (by omega)).mono ?_
  rintro e w' ⟨rfl, ho, hn⟩
  refine ⟨by congr 2, ?_, hn⟩
  show Owned S w' r.A (seqF (k : Int) r.xs.length)
  exact ho
theorem heldIntS_r (r : Rw Int) (m : Int) (k : Nat) (w : World) (hm : m = (k : Int)) (hr : Nst.In w w.heap.size (Nst.mkd k r)) (hl : NFit r) (hk2 : k ≤ 1000000000000000) :
    Calls Tryd.prog 41 #[.slice r.A r.xs.length r.c, .int .i64 m] w fun e w' => e = .returned (.int .i64 ((k + Nst.cnt r : Nat) : Int)) ∧ Below w.heap.size w w' := by
  subst hm
  refine (heldIntS_any r.A r.c r.xs.length k w w.heap.size hr hl (by omega) (by omega)).mono ?_
  rintro e w' ⟨rfl, rfl⟩
  exact ⟨by congr 2, Below.refl _ _⟩
theorem nfit_len {α : Type} [Flat α] [Nst α] {r : Rw α} (h : NFit r) : r.xs.length ≤ 1048576 := Nat.le_trans (Nst.len_le r) h
theorem nfit_each {α : Type} [Flat α] [Nst α] {r : Rw (Rw α)} (h : NFit r) (i : Nat) (hi : i < r.xs.length) : NFit (it r.xs i) := by
  have h1 := sumTo_at (fun i => Nst.wt (it r.xs i)) hi
  have h2 : r.xs.length + sumTo (fun i => Nst.wt (it r.xs i)) r.xs.length ≤ 1048576 := h
  show Nst.wt _ ≤ _
  omega

theorem szIntSS_r (r : Rw (Rw Int)) (left : Int) (w : World) (hr : Nst.In w w.heap.size r) (hl : Nst.Len r) (h0 : 0 ≤ left) (h1 : left ≤ 1048576) :
    Calls Tryd.prog 14 #[.slice r.A r.xs.length r.c, .int .i64 left] w fun e w' => (∃ q : Int, e = .returned (.int .i64 q) ∧ (q < 0 ∨ 0 ≤ q ∧ q + ((Nst.wt r : Nat) : Int) ≤ left)) ∧ Below w.heap.size w w' := by
  obtain ⟨A, c, rs⟩ := r
  have HR := Lib.hid (show NIn w w.heap.size A rs from hr)
  have HN := Lib.hid (show NLen rs from hl).each
  have hl' := (show NLen rs from hl).len
  show Calls Tryd.prog 14 #[.slice A rs.length c, .int .i64 left] w fun e w' => (∃ q : Int, e = .returned (.int .i64 q) ∧ (q < 0 ∨ 0 ≤ q ∧ q + ((rs.length + sumTo (fun i => Nst.wt (it rs i)) rs.length : Nat) : Int) ≤ left)) ∧ Below w.heap.size w w'
  clear hr hl
  go_enter Tryd.func14, Tryd.ntmps14
  by_cases h : left - (rs.length : Int) < 0
  · go_wp2
    go_ret
    exact ⟨⟨_, rfl, by omega⟩, Below.refl _ _⟩
  · go_wp2
    go_loopw [1, 5] (fun q i wr => ∃ (k : Nat) (p : Int), k ≤ rs.length ∧ i = .int .i64 k ∧ q = .int .i64 p ∧ 0 ≤ p ∧ p ≤ left ∧ Hid (p + ((rs.length + sumTo (fun i => Nst.wt (it rs i)) k : Nat) : Int) ≤ left) ∧ Below w.heap.size w wr) (fun _ i _ => rs.length - (intOf i).toNat)
    case atStart => exact ⟨0, left - (rs.length : Int), by omega, rfl, rfl, by omega, by omega, Lib.hid (by simp only [sumTo]; omega), Below.refl _ _⟩
    case round =>
      obtain ⟨k, p, hk, rfl, rfl, hp0, hp1, HA, hb⟩ := hrel
      by_cases hlt : k < rs.length
      · obtain ⟨b, o, rfl, hbl, hc⟩ := HR.out.out.rw (by omega)
        have c0 := (hb.cell (p := ⟨b, o + k, none⟩) hbl).trans (hc k hlt)
        have HE := Lib.hid (Nst.next (HR.out.each k hlt) hb)
        have HS := Lib.hid (HN.out k hlt)
        have HB := Lib.hid hb
        clear hc hb
        go_wp2_with (go_at_call 26; refine (szIntS_r (it rs k) _ _ HE.out HS.out hp0 (by omega)).mono ?_; rintro e w2 ⟨⟨q, rfl, hq⟩, hb2⟩; have HQ := Lib.hid hq; have HB2 := Lib.hid (below_next HB.out hb2); clear hq hb2)
        · go_ret
          exact ⟨⟨_, rfl, by omega⟩, HB2.out⟩
        · obtain ⟨hq0, hq1, HF⟩ : 0 ≤ q ∧ q ≤ p ∧ Hid (q + ((Nst.wt (it rs k) : Nat) : Int) ≤ p) := by
            rcases HQ.out with h | h
            · omega
            · exact ⟨h.1, by omega, Lib.hid h.2⟩
          go_roundw
          case rel => exact ⟨k + 1, q, by omega, by go_num, rfl, hq0, by omega, Lib.hid (by have h1 := HA.out; have h2 := HF.out; simp only [sumTo]; omega), HB2.out⟩
          case measure => simp [intOf]; omega
      · obtain rfl : k = rs.length := by omega
        go_wp2
        go_ret
        exact ⟨⟨_, rfl, .inr ⟨hp0, HA.out⟩⟩, hb⟩

theorem Tryd.infoRwIntS : (Tryd.prog.info? 41).map (fun i => (i.zero, i.size, i.bytes)) = some (some (.slice none 0 0), 1, 24) := by kernel_rfl
set_option maxHeartbeats 1000000 in
theorem toIntSS_r (r : Rw (Rw Int)) (w : World) (hr : Nst.In w w.heap.size r) (hl : NFit r) :
    Calls Tryd.prog 17 #[.slice r.A r.xs.length r.c] w fun e w' => (∃ y : Rw (Rw Int), e = .returned (.slice y.A y.xs.length y.c) ∧ Nst.Eqv r y ∧ Nst.Own (iv w.heap.size w'.heap.size) w' y) ∧ Below w.heap.size w w' := by
  have hl' := nfit_len hl
  have HF := Lib.hid (nfit_each hl)
  obtain ⟨A, c, rs⟩ := r
  have HR := Lib.hid (show NIn w w.heap.size A rs from hr)
  replace hl' : rs.length ≤ 1048576 := hl'
  replace HF : Hid (∀ i, i < rs.length → NFit (it rs i)) := HF
  show Calls Tryd.prog 17 #[.slice A rs.length c] w _
  clear hr hl
  obtain ⟨i0, hi, hz0, hz1, hz2⟩ := info_parts Tryd.infoRwIntS
  have HZ := Lib.hid (made_flat (α := Rw Int) #[.slice none 0 0] default rs.length rfl (by decide))
  go_enter Tryd.func17, Tryd.ntmps17
  go_wp2_with (at_make; refine wpList_make_full _ rfl (.tmp 6) (.tmp 6) 22 rfl w.heap.size 41 i0 (.slice none 0 0) 1 Tryd.underlying22 hi hz0 hz1 .i64 .i64 _ _ rs.length rfl rfl rfl rfl (by rw [hz2]; omega) (by unfold maxLen; omega) (Nat.le_refl _) ?_; intro w1 hown hgrow)
  have HW := Lib.hid (show OwnAt w1 w.heap.size 0 (List.replicate rs.length (default : Rw Int)) from own_of_row (α := Rw Int) (cap := rs.length) (e := 41) (base := w.heap.size) _ (by rw [← HZ.out, List.length_replicate]; exact hown))
  have hb1 : Below w.heap.size w w1 := (Below.refl _ _).grown hgrow (Nat.le_refl _) (fun k e => by cases e)
  have hs1 := (hown.lt w.heap.size rfl).2
  have HB1 := Lib.hid hb1
  clear hown hgrow hb1
  go_loopw [4] (fun i wr => ∃ (k : Nat) (ys : List (Rw Int)) (s : Nat → Nat), k ≤ rs.length ∧ i = .int .i64 k ∧ Hid (NCp w.heap.size wr rs ys s k) ∧ w.heap.size < wr.heap.size ∧ Below w.heap.size w wr) (fun i _ => rs.length - (intOf i).toNat)
  case atStart => exact ⟨0, _, fun _ => w.heap.size + 1, Nat.zero_le _, rfl, Lib.hid ⟨by rw [List.length_replicate], HW.out, fun i hi => absurd hi (by omega), fun i hi => absurd hi (by omega), Nat.lt_succ_self _, fun i hi => absurd hi (by omega), hs1⟩, hs1, HB1.out⟩
  case round =>
    obtain ⟨k, ys, s, hk, rfl, HC, hs, hb⟩ := hrel
    by_cases hlt : k < rs.length
    · obtain ⟨b, o, rfl, hbl, hc⟩ := HR.out.out.rw (by omega)
      have c0 := (hb.cell (p := ⟨b, o + k, none⟩) hbl).trans (hc k hlt)
      have HE := Lib.hid (Nst.next (HR.out.each k hlt) hb)
      have HB := Lib.hid hb
      have HK := Lib.hid (show k < ys.length by have := HC.out.len; omega)
      have HY := Lib.hid HC.out.len
      clear hc hb
      go_wp2_with (go_at_call 30; refine (toIntS_r (it rs k) _ HE.out (HF.out k hlt)).mono ?_; rintro e w2 ⟨⟨y, rfl, he, ho⟩, hb2⟩; have HC2 := Lib.hid (HC.out.step hb2 hlt hs y he ho); have hs2 := Nat.lt_of_lt_of_le hs hb2.size; have HB2 := Lib.hid (below_next HB.out hb2); obtain ⟨d0, f0⟩ := (HC.out.own.block (hb2.block _ hs)).rw0 k HK.out; have hyl : k < ys.length := HK.out; clear hb2 he ho)
      go_roundw
      case rel => exact ⟨k + 1, _, _, by omega, by go_num, HC2, by simpa [World.setCell] using hs2, HB2.out.setCell (Nat.le_refl _) _⟩
      case measure => simp [intOf]; omega
    · obtain rfl : k = rs.length := by omega
      have HY := Lib.hid HC.out.len
      go_wp2
      go_ret
      exact ⟨⟨⟨some ⟨w.heap.size, 0, none⟩, rs.length, ys⟩, by
        show Ending.returned (.slice _ rs.length rs.length) = Ending.returned (.slice _ ys.length rs.length)
        rw [HY.out], ⟨HY.out, HC.out.eqv⟩, HC.out.done hs _⟩, hb⟩

theorem eqIntSS_r (r s : Rw (Rw Int)) (w : World) (he : Nst.Eqv r s) (hr : Nst.In w w.heap.size r) (hs : Nst.In w w.heap.size s) (hl : NFit r) :
    Calls Tryd.prog 20 #[.slice r.A r.xs.length r.c, .slice s.A s.xs.length s.c] w fun e w' => e = .returned (.bool true) ∧ Below w.heap.size w w' := by
  have hl' := nfit_len hl
  have HF := Lib.hid (nfit_each hl)
  obtain ⟨A, c, rs⟩ := r
  obtain ⟨A', c', ss⟩ := s
  have HR := Lib.hid (show NIn w w.heap.size A rs from hr)
  have HR' := Lib.hid (show NIn w w.heap.size A' ss from hs)
  have HS := Lib.hid (show NEqv rs ss from he).each
  have HY := Lib.hid (show NEqv rs ss from he).len
  replace hl' : rs.length ≤ 1048576 := hl'
  replace HF : Hid (∀ i, i < rs.length → NFit (it rs i)) := HF
  show Calls Tryd.prog 20 #[.slice A rs.length c, .slice A' ss.length c'] w _
  rw [HY.out]
  clear hr hs he hl
  go_enter Tryd.func20, Tryd.ntmps20
  go_wp2
  go_loopw [5] (fun i wr => ∃ k : Nat, k ≤ rs.length ∧ i = .int .i64 k ∧ Below w.heap.size w wr) (fun i _ => rs.length - (intOf i).toNat)
  case atStart => exact ⟨0, Nat.zero_le _, rfl, Below.refl _ _⟩
  case round =>
    obtain ⟨k, hk, rfl, hb⟩ := hrel
    by_cases hlt : k < rs.length
    · obtain ⟨b, o, rfl, hbl, hc⟩ := HR.out.out.rw (by omega)
      obtain ⟨b', o', rfl, hbl', hc'⟩ := HR'.out.out.rw (by have := HY.out; omega)
      have c0 := (hb.cell (p := ⟨b, o + k, none⟩) hbl).trans (hc k hlt)
      have d0 := (hb.cell (p := ⟨b', o' + k, none⟩) hbl').trans (hc' k (by have := HY.out; omega))
      have hi1 : (0 : Int) ≤ (k : Int) := by omega
      have hi2 : (k : Int) < (rs.length : Int) := by omega
      have HE := Lib.hid (Nst.next (HR.out.each k hlt) hb)
      have HE' := Lib.hid (Nst.next (HR'.out.each k (by have := HY.out; omega)) hb)
      have HK := Lib.hid (HS.out k hlt)
      have HL := Lib.hid (HF.out k hlt)
      have HB := Lib.hid hb
      clear hc hc' hb
      go_wp2
      go_region_with (go_at_call 35; (with_reducible refine (eqIntS_r (it rs k) (it ss k) _ HK.out (Nst.next HE.out (below_drew _)) (Nst.next HE'.out (below_drew _)) HL.out).mono ?_); rintro e w1 ⟨rfl, hb1⟩)
      all_goals
        have HB1 := Lib.hid (HB.out.trans ((Below.refl _ _).drew.trans (hb1.mono (by exact HB.out.size))))
        clear hb1
        go_simp
        go_wp2
        go_roundw
        case rel => exact ⟨k + 1, by omega, by go_num, HB1.out⟩
        case measure => simp [intOf]; omega
    · go_wp2
      go_ret
      exact ⟨rfl, hb⟩

set_option maxHeartbeats 1000000 in
theorem markIntSS_r (S : Nat → Prop) (r : Rw (Rw Int)) (m : Int) (k : Nat) (w : World) (hm : m = (k : Int)) (hr : Nst.Own S w r) (hl : NFit r) (hk2 : k ≤ 900000000000000) :
    Calls Tryd.prog 24 #[.slice r.A r.xs.length r.c, .int .i64 m] w fun e w' => e = .returned (.int .i64 ((k + Nst.cnt r : Nat) : Int)) ∧ Nst.Own S w' (Nst.mkd k r) ∧ Only S w w' := by
  subst hm
  have hl' := nfit_len hl
  have HF := Lib.hid (nfit_each hl)
  obtain ⟨A, c, rs⟩ := r
  have HK := Lib.hid (kTo_le k rs A c hl)
  replace hl' : rs.length ≤ 1048576 := hl'
  replace HF : Hid (∀ i, i < rs.length → NFit (it rs i)) := HF
  obtain ⟨g, T, h⟩ := hr
  replace h : NOwn S w A g T rs := h
  show Calls Tryd.prog 24 #[.slice A rs.length c, .int .i64 k] w fun e w' => e = .returned (.int .i64 ((kTo k rs rs.length : Nat) : Int)) ∧ (∃ g T, NOwn S w' A g T (mkTo k rs.length rs)) ∧ Only S w w'
  clear hl
  rcases Nat.eq_zero_or_pos rs.length with h0 | h0
  · obtain rfl : rs = [] := List.eq_nil_of_length_eq_zero h0
    have HR := Lib.hid h
    clear h h0 hl'
    go_enter Tryd.func24, Tryd.ntmps24
    go_wp2
    go_loop [1, 5] (fun q i => i = .int .i64 0 ∧ q = .int .i64 k) (fun _ _ => 0)
    case atStart => exact ⟨rfl, rfl⟩
    case round =>
      obtain ⟨rfl, rfl⟩ := hrel
      go_wp2
      go_ret
      exact ⟨rfl, ⟨g, T, HR.out⟩, Only.refl _ _⟩
  · obtain ⟨g', o, rfl, rfl, hg, ho⟩ := h.out h0
    have HO0 := Lib.hid (show NOwn S w (some ⟨g', o, none⟩) g' T (mkTo k 0 rs) by rw [mkTo_0]; exact h)
    clear h ho hg
    go_enter Tryd.func24, Tryd.ntmps24
    go_wp2
    go_loopw [1, 5] (fun q i wr => ∃ (j : Nat), j ≤ rs.length ∧ i = .int .i64 j ∧ q = .int .i64 ((kTo k rs j : Nat) : Int) ∧ Hid (NOwn S wr (some ⟨g', o, none⟩) g' T (mkTo k j rs)) ∧ Only S w wr) (fun _ i _ => rs.length - (intOf i).toNat)
    case atStart => exact ⟨0, Nat.zero_le _, rfl, rfl, HO0, Only.refl _ _⟩
    case round =>
      obtain ⟨j, hj, rfl, rfl, HO, hn⟩ := hrel
      have HN := Lib.hid hn
      clear hn
      by_cases hlt : j < rs.length
      · have c0 := HO.out.cellM hlt
        have HE := Lib.hid (HO.out.eachM hlt)
        obtain ⟨k1, k2⟩ := HK.out j hj
        have q1 : (0 : Int) ≤ (j : Int) := by omega
        have q2 : (j : Int) < (rs.length : Int) := by omega
        go_wp2_with (go_at_call 40; refine (markIntS_r (T j) (it rs j) _ (kTo k rs j) _ rfl HE.out (HF.out j hlt) (by omega)).mono ?_; rintro e w1 ⟨rfl, hm, ho⟩; have HO1 := Lib.hid (HO.out.mark hlt hm ho); have HN1 := Lib.hid (HN.out.trans (ho.mono (fun i hi => HO.out.sT j i (by rw [mkTo_len]; exact hlt) hi))); clear hm ho)
        go_roundw
        case rel => exact ⟨j + 1, by omega, by go_num, kTo_succ k rs j, HO1, HN1.out⟩
        case measure => simp [intOf]; omega
      · obtain rfl : j = rs.length := by omega
        go_wp2
        go_ret
        exact ⟨rfl, ⟨_, _, HO.out⟩, HN.out⟩

theorem heldIntSS_r (r : Rw (Rw Int)) (m : Int) (k : Nat) (w : World) (hm : m = (k : Int)) (hr : Nst.In w w.heap.size (Nst.mkd k r)) (hl : NFit r) (hk2 : k ≤ 900000000000000) :
    Calls Tryd.prog 25 #[.slice r.A r.xs.length r.c, .int .i64 m] w fun e w' => e = .returned (.int .i64 ((k + Nst.cnt r : Nat) : Int)) ∧ Below w.heap.size w w' := by
  subst hm
  have hl' := nfit_len hl
  have HF := Lib.hid (nfit_each hl)
  obtain ⟨A, c, rs⟩ := r
  have HK := Lib.hid (kTo_le k rs A c hl)
  replace hl' : rs.length ≤ 1048576 := hl'
  replace HF : Hid (∀ i, i < rs.length → NFit (it rs i)) := HF
  have HR := Lib.hid (show NIn w w.heap.size A (mkTo k rs.length rs) from hr)
  show Calls Tryd.prog 25 #[.slice A rs.length c, .int .i64 k] w fun e w' => e = .returned (.int .i64 ((kTo k rs rs.length : Nat) : Int)) ∧ Below w.heap.size w w'
  clear hl hr
  go_enter Tryd.func25, Tryd.ntmps25
  go_wp2
  go_loopw [1, 5] (fun q i wr => ∃ (j : Nat), j ≤ rs.length ∧ i = .int .i64 j ∧ q = .int .i64 ((kTo k rs j : Nat) : Int) ∧ Below w.heap.size w wr) (fun _ i _ => rs.length - (intOf i).toNat)
  case atStart => exact ⟨0, Nat.zero_le _, rfl, rfl, Below.refl _ _⟩
  case round =>
    obtain ⟨j, hj, rfl, rfl, hb⟩ := hrel
    by_cases hlt : j < rs.length
    · obtain ⟨b, o, rfl, hbl, hc⟩ := HR.out.cellM (by omega)
      have c0 := (hb.cell (p := ⟨b, o + j, none⟩) hbl).trans (hc j hlt)
      have HE := Lib.hid (Nst.next (HR.out.eachM hlt) hb)
      have HB := Lib.hid hb
      obtain ⟨k1, k2⟩ := HK.out j hj
      clear hc hb
      go_wp2_with (go_at_call 41; refine (heldIntS_r (it rs j) _ (kTo k rs j) _ rfl HE.out (HF.out j hlt) (by omega)).mono ?_; rintro e w1 ⟨rfl, hb1⟩; have HB1 := Lib.hid (below_next HB.out hb1); clear hb1)
      go_roundw
      case rel => exact ⟨j + 1, by omega, by go_num, kTo_succ k rs j, HB1.out⟩
      case measure => simp [intOf]; omega
    · obtain rfl : j = rs.length := by omega
      go_wp2
      go_ret
      exact ⟨rfl, hb⟩
end Go.Proofs.YtfeffkjmjkddnaaDoor
