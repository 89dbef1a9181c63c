/- ItemText, in the model and in the program. -/
import Derived.Test.YtjnimmjlmfhpdaaItemY
namespace Go.Proofs.Ytjnimmjlmfhpdaa
open Go.ChangeShapes Go.WideShapes Go.ChangeAt Go.RowKit
set_option linter.unusedVariables false

/-- The text of a valid item; of another one none. -/
noncomputable def txtV (x : Im) : ByteArray := @ite _ (ItOk x.ns x.ms) (Classical.propDecidable _) (itTxt x) ⟨#[]⟩
theorem txtV_yes {x : Im} (h : ItOk x.ns x.ms) : txtV x = itTxt x := by unfold txtV; rw [if_pos h]
theorem txtV_no {x : Im} (h : ¬ ItOk x.ns x.ms) : txtV x = ⟨#[]⟩ := by unfold txtV; rw [if_neg h]
theorem itTxt_same {x y : Im} (h : Same x y) : itTxt y = itTxt x := by
  unfold itTxt
  rw [h.ns, h.ms, h.late]
theorem txtV_same {x y : Im} (h : Same x y) : txtV y = txtV x := by
  by_cases k : ItOk x.ns x.ms
  · rw [txtV_yes k, txtV_yes (by rw [h.ns, h.ms]; exact k), itTxt_same h]
  · rw [txtV_no k, txtV_no (by rw [h.ns, h.ms]; exact k)]
theorem itTxt_size (x : Im) (h : ItOk x.ns x.ms) : (itTxt x).size ≤ 23 := by
  have h1 := txtTo_size x.ns x.ms h x.ns.length (Nat.le_refl _)
  have h2 := h.hi
  unfold itTxt
  split
  · rw [ByteArray.size_append]
    show _ + 2 ≤ _
    omega
  · omega
theorem sItemText_any (x : Im) (w : World) (hr : ImIn w w.heap.size x) (hl : ItFits x) :
    Calls Try.prog 25 #[x.val] w fun e w' => e = .returned (.tuple #[.string (txtV x), .bool (pB (ItOk x.ns x.ms))]) ∧ Below w.heap.size w w' := by
  have HB0 := Lib.hid (below_alloc w (.cells #[.slice x.A x.ns.length x.c, .slice x.L x.ms.length x.d, .bool x.late] 29))
  have HX0 := Lib.hid (imBox_new w 29 x)
  have HR := Lib.hid hr
  have HL := Lib.hid hl
  clear hr hl
  have HC := Lib.hid (fun w1 (hb : Below w.heap.size w w1) => itGood_any x w1 (HR.out.next hb) HL.out)
  unfold Im.val at HC ⊢
  by_cases hok : ItOk x.ns x.ms
  · rw [pB_yes hok] at HC ⊢
    rw [txtV_yes hok]
    have HT := Lib.hid (fun w1 (hb : Below w.heap.size w w1) => itText_any x w1 (HR.out.next hb) hok)
    unfold Im.val at HT
    clear hok
    go_enter Try.func25, Try.ntmps25
    go_wp2_with fail
    generalize World.alloc w _ = W at HB0 HX0 ⊢
    refine (HC.out _ HB0.out).mono ?_
    rintro e w1 ⟨rfl, hb1⟩
    have HB1 := Lib.hid (below_next HB0.out hb1)
    obtain ⟨lt, c0, c1, c2⟩ := HX0.out.next hb1
    clear hb1
    go_wp2_with fail
    refine (HT.out _ HB1.out).mono ?_
    rintro e w2 ⟨rfl, hb2⟩
    have HB2 := Lib.hid (below_next HB1.out hb2)
    clear hb2
    go_wp2
    go_returns
    exact ⟨rfl, HB2.out⟩
  · rw [pB_no hok] at HC ⊢
    rw [txtV_no hok]
    clear hok
    go_enter Try.func25, Try.ntmps25
    go_wp2_with fail
    generalize World.alloc w _ = W at HB0 HX0 ⊢
    refine (HC.out _ HB0.out).mono ?_
    rintro e w1 ⟨rfl, hb1⟩
    have HB1 := Lib.hid (below_next HB0.out hb1)
    clear hb1
    go_wp2
    go_returns
    exact ⟨rfl, HB1.out⟩

theorem iItemText_no (x : Im) (w : World) (hr : ImIn w w.heap.size x) (hl : ItFits x) (hok : ¬ ItOk x.ns x.ms) :
    Calls Try.prog 26 #[x.val] w fun e w' => e = .returned (.tuple #[.string ⟨#[]⟩, .bool false]) ∧ Below w.heap.size w w' := by
  have HB0 := Lib.hid (below_alloc w (.cells #[.slice x.A x.ns.length x.c, .slice x.L x.ms.length x.d, .bool x.late] 29))
  have HX0 := Lib.hid (imBox_new w 29 x)
  have HC := Lib.hid (fun w1 (hb : Below w.heap.size w w1) => iIsItem_any x w1 (hr.next hb) hl)
  unfold Im.val at HC ⊢
  rw [pB_no hok] at HC
  clear hok hr hl
  go_enter Try.func26, Try.ntmps26
  go_wp2_with fail
  generalize World.alloc w _ = W at HB0 HX0 ⊢
  refine (HC.out _ HB0.out).mono ?_
  rintro e w1 ⟨rfl, hb1⟩
  have HB1 := Lib.hid (below_next HB0.out hb1)
  clear hb1
  go_wp2
  go_returns
  exact ⟨rfl, HB1.out⟩

set_option maxHeartbeats 2000000 in
theorem iItemText_yes (x : Im) (w : World) (hr : ImIn w w.heap.size x) (hl : ItFits x) (hok : ItOk x.ns x.ms) :
    Calls Try.prog 26 #[x.val] w fun e w' => e = .returned (.tuple #[.string (itTxt x), .bool true]) ∧ Below w.heap.size w w' := by
  have HC := Lib.hid (fun w1 (hb : Below w.heap.size w w1) => iIsItem_any x w1 (hr.next hb) hl)
  rw [pB_yes hok] at HC
  obtain ⟨A, c, L, d, ns, ms, lt⟩ := x
  have hlo := hok.lo
  have hhi := hok.hi
  have heq := hok.eq
  obtain ⟨b, o, rfl, hbl, hc⟩ := hr.ns.str hlo
  obtain ⟨b', o', rfl, hbl', hc'⟩ := hr.ms.int (by show 0 < ms.length; simp only at hlo heq; omega)
  simp only at hlo hhi heq hbl hbl' hc hc' hok
  unfold Im.val at HC
  simp only at HC
  show Calls Try.prog 26 #[.agg #[.slice (some ⟨b, o, none⟩) ns.length c, .slice (some ⟨b', o', none⟩) ms.length d, .bool lt]] w fun e w' => e = .returned (.tuple #[.string (itTxt ⟨_, c, _, d, ns, ms, lt⟩), .bool true]) ∧ Below w.heap.size w w'
  have HB0 := Lib.hid (below_alloc w (.cells #[.slice (some ⟨b, o, none⟩) ns.length c, .slice (some ⟨b', o', none⟩) ms.length d, .bool lt] 29))
  have HX0 := Lib.hid (imBox_new w 29 ⟨some ⟨b, o, none⟩, c, some ⟨b', o', none⟩, d, ns, ms, lt⟩)
  have HN := Lib.hid hc
  have HM := Lib.hid hc'
  have HO := Lib.hid hok
  have HE := Lib.hid heq
  have hm3 : ms.length ≤ 3 := by omega
  obtain ⟨i0, hi, hz0, hz1, hz2⟩ := info_parts Try.infoStr
  have HZ := Lib.hid (made_flat (α := ByteArray) #[.string ⟨#[]⟩] default ns.length rfl (by decide))
  clear hr hc hc' hok heq hl
  go_enter Try.func26, Try.ntmps26
  go_wp2_with fail
  generalize World.alloc w _ = W at HB0 HX0 ⊢
  refine (HC.out _ HB0.out).mono ?_
  rintro e w1 ⟨rfl, hb1⟩
  have HB1 := Lib.hid (below_next HB0.out hb1)
  have hX1 := HX0.out.next hb1
  have HX1 := Lib.hid hX1
  obtain ⟨hbx, c0, c1, c2⟩ := hX1
  simp only at c0 c1 c2
  clear hb1 HC HX0
  go_wp2_with (at_make; refine wpList_make_full _ rfl (.tmp 13) (.tmp 13) 23 rfl w1.heap.size 9 i0 (.string ⟨#[]⟩) 1 Try.underlying23 hi hz0 hz1 .i64 .i64 _ _ ns.length rfl rfl rfl rfl (by rw [hz2]; omega) (by unfold maxLen; omega) (Nat.le_refl _) ?_; intro w2 hown hgrow; have c0' := ((Below.refl _ _).grown (B := w1.heap.size) hgrow (Nat.le_refl _) (fun k e => by cases e)).cell (p := ⟨w.heap.size, 0, none⟩) hbx |>.trans c0)
  have HW2 := Lib.hid (show OwnAt w2 w1.heap.size 0 (List.replicate ns.length (default : ByteArray)) from own_of_row (α := ByteArray) (cap := ns.length) (e := 9) (base := w1.heap.size) _ (by rw [← HZ.out, List.length_replicate]; exact hown))
  have hb2 : Below w1.heap.size w1 w2 := (Below.refl _ _).grown hgrow (Nat.le_refl _) (fun k e => by cases e)
  have hs2 := (hown.lt w1.heap.size rfl).2
  have HB2 := Lib.hid hb2
  clear hown hgrow hb2 c0 c1 c2 c0'
  go_loopw [18] (fun i wr => ∃ (k : Nat) (ys : List ByteArray), k ≤ ns.length ∧ i = .int .i64 k ∧ Hid (ys.length = ns.length) ∧ Hid (WordsTo ns ms k ys) ∧ Hid (OwnAt wr w1.heap.size 0 ys) ∧ w1.heap.size < wr.heap.size ∧ Below w1.heap.size w1 wr) (fun i _ => ns.length - (intOf i).toNat)
  case atStart => exact ⟨0, _, Nat.zero_le _, rfl, Lib.hid (by rw [List.length_replicate]), Lib.hid ⟨fun j hj => absurd hj (by omega)⟩, HW2, hs2, HB2.out⟩
  case round =>
    obtain ⟨k, ys, hk, rfl, HY, HWT, HOY, hsr, hb⟩ := hrel
    have hX := HX1.out.next hb
    have hbw := below_next HB1.out hb
    by_cases hlt : k < ns.length
    · have hke : k < ms.length := by have := HE.out; omega
      have n0 := (hbw.cell (p := ⟨b, o + k, none⟩) hbl).trans (HN.out k hlt)
      have m0 := (hbw.cell (p := ⟨b', o' + k, none⟩) hbl').trans (HM.out k hke)
      obtain ⟨j1, j2⟩ := HO.out.mks k hke
      obtain ⟨n, hn⟩ : ∃ n : Nat, it ms k = (n : Int) := ⟨_, (Int.toNat_of_nonneg j1).symm⟩
      have hw : wordT ns ms k = it ns k ++ sgn n := by rw [wordT, hn]; rfl
      rw [hn] at m0 j2
      have hn4 : n < 4 := by omega
      have x1 := hX.c1
      simp only at x1
      have hs1 := (HO.out.nm k hlt).hi
      have hs2 := sgn_size n
      have q1 : (0 : Int) ≤ (k : Int) := by omega
      have q2 : (k : Int) < (ns.length : Int) := by omega
      have q3 : (k : Int) < (ms.length : Int) := by omega
      obtain ⟨d0, f0⟩ := HOY.out.str0 k (by have := HY.out; omega)
      have HP := Lib.hid (HOY.out.putStr0 k (it ns k ++ sgn n) (by have := HY.out; omega))
      have HB := Lib.hid hb
      have HW := Lib.hid hw
      clear hb hX hw hbw hn
      go_wp2_with (go_at_call 57; refine (signOf_any n _ hn4).mono ?_; rintro e w3 ⟨rfl, rfl⟩)
      go_roundw
      case rel => exact ⟨k + 1, _, by omega, by go_num, Lib.hid (by rw [List.length_set]; exact HY.out), Lib.hid ⟨fun j hj => by
        rw [it_set _ _ _ _ (by have := HY.out; omega)]
        by_cases e : j = k
        · rw [if_pos e, e, HW.out]
        · rw [if_neg e]
          exact HWT.out.each j (by omega)⟩, HP, by simpa [World.setCell] using hsr, HB.out.setCell (Nat.le_refl _) _⟩
      case measure => simp [intOf]; omega
    · obtain rfl : k = ns.length := by omega
      have hjn := join_any w1.heap.size ns ms ys wr HO.out HY.out HWT.out HOY.out hsr
      have HJ := Lib.hid hjn
      have HB := Lib.hid hbw
      have hszt := txtTo_size ns ms HO.out ns.length (Nat.le_refl _)
      have HX := Lib.hid hX
      clear hjn hbw hX hb
      go_wp2_with fail
      refine HJ.out.mono ?_
      rintro e w4 ⟨rfl, hb4⟩
      have x2 := (HX.out.next hb4).c2
      have HB4 := Lib.hid (below_next HB.out hb4)
      clear hb4
      simp only at x2
      cases lt
      · go_wp2
        go_returns
        exact ⟨rfl, HB4.out⟩
      · go_wp2
        go_returns
        exact ⟨rfl, HB4.out⟩
theorem iItemText_any (x : Im) (w : World) (hr : ImIn w w.heap.size x) (hl : ItFits x) :
    Calls Try.prog 26 #[x.val] w fun e w' => e = .returned (.tuple #[.string (txtV x), .bool (pB (ItOk x.ns x.ms))]) ∧ Below w.heap.size w w' := by
  by_cases hok : ItOk x.ns x.ms
  · rw [pB_yes hok, txtV_yes hok]
    exact iItemText_yes x w hr hl hok
  · rw [pB_no hok, txtV_no hok]
    exact iItemText_no x w hr hl hok
end Go.Proofs.Ytjnimmjlmfhpdaa
