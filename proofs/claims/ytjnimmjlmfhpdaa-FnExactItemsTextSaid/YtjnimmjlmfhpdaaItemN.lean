/- ItemsText, in the model and in the program; the walk of its law. -/
import Derived.Test.YtjnimmjlmfhpdaaItemZ
namespace Go.Proofs.Ytjnimmjlmfhpdaa
open Go.ChangeShapes Go.WideShapes Go.ChangeAt Go.RowKit
set_option linter.unusedVariables false

/-- The text of the first k items. -/
def linT (xs : List Im) : Nat → ByteArray
  | 0 => ⟨#[]⟩
  | k + 1 => linT xs k ++ (itTxt (it xs k) ++ ⟨#[10]⟩)
noncomputable def linV (xs : List Im) : ByteArray := @ite _ (ListOk xs) (Classical.propDecidable _) (linT xs xs.length) ⟨#[]⟩
theorem linV_yes {xs : List Im} (h : ListOk xs) : linV xs = linT xs xs.length := by unfold linV; rw [if_pos h]
theorem linV_no {xs : List Im} (h : ¬ ListOk xs) : linV xs = ⟨#[]⟩ := by unfold linV; rw [if_neg h]
theorem linT_same {xs ys : List Im} (h : SameS xs ys) : ∀ k, k ≤ xs.length → linT ys k = linT xs k
  | 0, _ => rfl
  | k + 1, hk => by rw [linT, linT, linT_same h k (by omega), itTxt_same (h.each k (by omega))]
theorem listOk_to {xs ys : List Im} (h : SameS xs ys) (k : ListOk xs) : ListOk ys :=
  ⟨by have := h.len; have := k.len; omega, fun i hi => by have hk := k.each i (by have := h.len; omega); have he := h.each i (by have := h.len; omega); rw [he.ns, he.ms]; exact hk⟩
theorem linV_same {xs ys : List Im} (h : SameS xs ys) : linV ys = linV xs := by
  by_cases k : ListOk xs
  · rw [linV_yes k, linV_yes (listOk_to h k), h.len, linT_same h _ (Nat.le_refl _)]
  · rw [linV_no k, linV_no (fun q => k (listOk_to h.symm q))]
theorem linT_size (xs : List Im) (h : ListOk xs) : ∀ k, k ≤ xs.length → (linT xs k).size ≤ 24 * k
  | 0, _ => Nat.le_refl _
  | k + 1, hk => by
    have h1 := itTxt_size (it xs k) (h.each k (by omega))
    have h2 := linT_size xs h k (by omega)
    rw [linT, ByteArray.size_append, ByteArray.size_append]
    show _ + (_ + 1) ≤ _
    omega

set_option maxHeartbeats 1000000 in
theorem itLines_any (P : Option Addr) (c : Nat) (xs : List Im) (w : World) (hr : Ims w w.heap.size P xs) (hl : ImsFits xs) (hok : ListOk xs) :
    Calls Try.prog 59 #[.slice P xs.length c] w fun e w' => e = .returned (.string (linT xs xs.length)) ∧ Below w.heap.size w w' := by
  have HR := Lib.hid hr
  have HF := Lib.hid hl.each
  have HO := Lib.hid hok
  have h14 := hok.len
  clear hr hl hok
  go_enter Try.func59, Try.ntmps59
  go_wp2
  go_loopw [3, 8] (fun s i wr => ∃ k : Nat, k ≤ xs.length ∧ i = .int .i64 k ∧ s = .string (linT xs k) ∧ Below w.heap.size w wr) (fun _ i _ => xs.length - (intOf i).toNat)
  case atStart => exact ⟨0, Nat.zero_le _, rfl, rfl, Below.refl _ _⟩
  case round =>
    obtain ⟨k, hk, rfl, rfl, hb⟩ := hrel
    by_cases hlt : k < xs.length
    · obtain ⟨b, o, rfl, hbl, hc⟩ := HR.out.out.im (by omega)
      obtain ⟨c0, c1, c2⟩ := (hc k hlt).below hb hbl
      have HE := Lib.hid ((HR.out.each k hlt).next hb)
      have HI := Lib.hid (HO.out.each k hlt)
      have HB := Lib.hid hb
      have hs1 := linT_size xs HO.out k hk
      have hs2 := itTxt_size (it xs k) (HO.out.each k hlt)
      have HX := Lib.hid (show linT xs (k + 1) = linT xs k ++ (itTxt (it xs k) ++ ⟨#[10]⟩) from rfl)
      clear hc hb
      go_wp2_with (go_at_call 56; refine (itText_any (it xs k) _ (HE.out.next (below_alloc _ _)) HI.out).mono ?_; rintro e w2 ⟨rfl, hb2⟩; have HB2 := Lib.hid (below_next HB.out (below_next (below_alloc _ _) hb2)); clear hb2)
      go_roundw
      case rel => exact ⟨k + 1, by omega, by go_num, by rw [HX.out], HB2.out⟩
      case measure => simp [intOf]; omega
    · obtain rfl : k = xs.length := by omega
      go_wp2
      go_ret
      exact ⟨rfl, hb⟩
theorem sItemsText_any (P : Option Addr) (c : Nat) (xs : List Im) (w : World) (hr : Ims w w.heap.size P xs) (hl : ImsFits xs) :
    Calls Try.prog 27 #[.slice P xs.length c] w fun e w' => e = .returned (.tuple #[.string (linV xs), .bool (pB (ListOk xs))]) ∧ Below w.heap.size w w' := by
  have HA := Lib.hid (itList_any P c xs w hr hl)
  have HR := Lib.hid hr
  have HL := Lib.hid hl
  clear hr hl
  by_cases hok : ListOk xs
  · rw [pB_yes hok] at HA ⊢
    rw [linV_yes hok]
    have HC := Lib.hid (fun w1 (hb : Below w.heap.size w w1) => itLines_any P c xs w1 (HR.out.next hb) HL.out hok)
    clear hok
    go_enter Try.func27, Try.ntmps27
    go_wp2_with fail
    refine HA.out.mono ?_
    rintro e w1 ⟨rfl, hb1⟩
    have HB1 := Lib.hid hb1
    clear hb1
    go_wp2_with fail
    refine (HC.out _ HB1.out).mono ?_
    rintro e w2 ⟨rfl, hb2⟩
    have HB2 := Lib.hid (below_next HB1.out hb2)
    clear hb2
    go_wp2
    go_returns
    exact ⟨rfl, HB2.out⟩
  · rw [pB_no hok] at HA ⊢
    rw [linV_no hok]
    clear hok
    go_enter Try.func27, Try.ntmps27
    go_wp2_with fail
    refine HA.out.mono ?_
    rintro e w1 ⟨rfl, hb1⟩
    have HB1 := Lib.hid hb1
    clear hb1
    go_wp2
    go_returns
    exact ⟨rfl, HB1.out⟩
set_option maxHeartbeats 1000000 in
theorem iItemsText_any (P : Option Addr) (c : Nat) (xs : List Im) (w : World) (hr : Ims w w.heap.size P xs) (hl : ImsFits xs) :
    Calls Try.prog 28 #[.slice P xs.length c] w fun e w' => e = .returned (.tuple #[.string (linV xs), .bool (pB (ListOk xs))]) ∧ Below w.heap.size w w' := by
  have HA := Lib.hid (iAreItems_any P c xs w hr hl)
  have HR := Lib.hid hr
  have HF := Lib.hid hl.each
  clear hr hl
  by_cases hok : ListOk xs
  · rw [pB_yes hok] at HA ⊢
    rw [linV_yes hok]
    have HO := Lib.hid hok
    have h14 := hok.len
    clear hok
    go_enter Try.func28, Try.ntmps28
    go_wp2_with fail
    refine HA.out.mono ?_
    rintro e w1 ⟨rfl, hb1⟩
    have HB1 := Lib.hid hb1
    clear hb1 HA
    go_wp2_with fail
    go_loopw [4, 14] (fun s i wr => ∃ k : Nat, k ≤ xs.length ∧ i = .int .i64 k ∧ s = .string (linT xs k) ∧ Below w.heap.size w wr) (fun _ i _ => xs.length - (intOf i).toNat)
    case atStart => exact ⟨0, Nat.zero_le _, rfl, rfl, HB1.out⟩
    case round =>
      obtain ⟨k, hk, rfl, rfl, hb⟩ := hrel
      by_cases hlt : k < xs.length
      · obtain ⟨b, o, rfl, hbl, hc⟩ := HR.out.out.im (by omega)
        obtain ⟨c0, c1, c2⟩ := (hc k hlt).below hb hbl
        have HE := Lib.hid ((HR.out.each k hlt).next hb)
        have HI := Lib.hid (HO.out.each k hlt)
        have HL := Lib.hid (HF.out k hlt)
        have HB := Lib.hid hb
        have hs1 := linT_size xs HO.out k hk
        have hs2 := itTxt_size (it xs k) (HO.out.each k hlt)
        have HX := Lib.hid (show linT xs (k + 1) = linT xs k ++ (itTxt (it xs k) ++ ⟨#[10]⟩) from rfl)
        clear hc hb
        go_wp2_with (go_at_call 26; refine (iItemText_yes (it xs k) _ (HE.out.next (below_alloc _ _)) HL.out HI.out).mono ?_; rintro e w2 ⟨rfl, hb2⟩; have HB2 := Lib.hid (below_next HB.out (below_next (below_alloc _ _) hb2)); clear hb2)
        go_roundw
        case rel => exact ⟨k + 1, by omega, by go_num, by rw [HX.out], HB2.out⟩
        case measure => simp [intOf]; omega
      · obtain rfl : k = xs.length := by omega
        go_wp2
        go_returns
        exact ⟨rfl, hb⟩
  · rw [pB_no hok] at HA ⊢
    rw [linV_no hok]
    clear hok
    go_enter Try.func28, Try.ntmps28
    go_wp2_with fail
    refine HA.out.mono ?_
    rintro e w1 ⟨rfl, hb1⟩
    have HB1 := Lib.hid hb1
    clear hb1
    go_wp2
    go_returns
    exact ⟨rfl, HB1.out⟩
theorem sItemsText_n (P : Option Addr) (c n : Nat) (xs : List Im) (hn : xs.length = n) (w : World) (hr : Ims w w.heap.size P xs) (hl : ImsFits xs) :
    Calls Try.prog 27 #[.slice P n c] w fun e w' => e = .returned (.tuple #[.string (linV xs), .bool (pB (ListOk xs))]) ∧ Below w.heap.size w w' := by
  subst hn
  exact sItemsText_any P c xs w hr hl
theorem iItemsText_n (P : Option Addr) (c n : Nat) (xs : List Im) (hn : xs.length = n) (w : World) (hr : Ims w w.heap.size P xs) (hl : ImsFits xs) :
    Calls Try.prog 28 #[.slice P n c] w fun e w' => e = .returned (.tuple #[.string (linV xs), .bool (pB (ListOk xs))]) ∧ Below w.heap.size w w' := by
  subst hn
  exact iItemsText_any P c xs w hr hl
theorem walkItemsText (P : Option Addr) (c : Nat) (xs : List Im) (w : World) (hr : Ims w w.heap.size P xs) (hl : ImsLen xs) :
    Calls Try.prog 7 #[.slice P xs.length c] w fun e w' => e = .returned (.bool true) ∧ Below w.heap.size w w' := by
  have HR := Lib.hid hr
  have HL := Lib.hid hl
  clear hr hl
  go_enter Try.func7, Try.ntmps7
  go_wp2_with fail
  refine (szItemS_any P c xs _ w HR.out HL.out (by omega) (by omega)).mono ?_
  rintro e w1 ⟨⟨q, rfl, hq⟩, hb1⟩
  have HB1 := Lib.hid hb1
  have HR1 := Lib.hid (HR.out.next hb1)
  clear hb1
  rcases hq with hq | ⟨hq0, hq1, HF⟩
  · go_wp2
    go_ret
    exact ⟨rfl, HB1.out⟩
  · go_wp2_with fail
    refine (toItemS_c P c xs w1 HR1.out HF.out).mono ?_
    rintro e w2 ⟨rfl, ⟨ys, g, G, hs, ho⟩, hb2⟩
    have HB2 := Lib.hid (below_next HB1.out hb2)
    have HR2 := Lib.hid (HR1.out.next hb2)
    have HC := Lib.hid (sItemsText_n _ xs.length _ ys hs.len w2 ho.ims (hs.fits HF.out))
    rw [listOk_same hs, linV_same hs] at HC
    clear hb2 hs ho
    go_wp2_with fail
    refine HC.out.mono ?_
    rintro e w3 ⟨rfl, hb3⟩
    have HB3 := Lib.hid (below_next HB2.out hb3)
    have HR3 := Lib.hid (HR2.out.next hb3)
    clear hb3 HC
    go_wp2_with fail
    refine (toItemS_c P c xs w3 HR3.out HF.out).mono ?_
    rintro e w4 ⟨rfl, ⟨ys, g, G, hs, ho⟩, hb4⟩
    have HB4 := Lib.hid (below_next HB3.out hb4)
    have HR4 := Lib.hid (HR3.out.next hb4)
    have HS4 := Lib.hid hs
    have HO4 := Lib.hid ho.ims
    have HC := Lib.hid (iItemsText_n _ xs.length _ ys hs.len w4 ho.ims (hs.fits HF.out))
    rw [listOk_same hs, linV_same hs] at HC
    clear hb4 hs ho
    go_wp2_with fail
    refine HC.out.mono ?_
    rintro e w5 ⟨rfl, hb5⟩
    have HB5 := Lib.hid (below_next HB4.out hb5)
    have HR5 := Lib.hid (HR4.out.next hb5)
    have HO5 := Lib.hid (HO4.out.next hb5)
    clear hb5 HC
    go_wp2_with fail
    refine (toItemS_c P c xs w5 HR5.out HF.out).mono ?_
    rintro e w6 ⟨rfl, ⟨zs, g', G', hs', ho'⟩, hb6⟩
    have HB6 := Lib.hid (below_next HB5.out hb6)
    have HC := Lib.hid (eqItemS_n (some ⟨w3.heap.size, 0, none⟩) (some ⟨w5.heap.size, 0, none⟩) xs.length xs.length xs.length ys zs HS4.out.len w6 (HS4.out.symm.trans hs') (HO5.out.next hb6) ho'.ims (HS4.out.fits HF.out))
    clear hb6 hs' ho'
    go_wp2_with fail
    refine HC.out.mono ?_
    rintro e w7 ⟨rfl, hb7⟩
    have HB7 := Lib.hid (below_next HB6.out hb7)
    clear hb7 HC
    go_wp2
    go_ret
    exact ⟨rfl, HB7.out⟩

end Go.Proofs.Ytjnimmjlmfhpdaa
