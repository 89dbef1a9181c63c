/- MarkLate in the model: the flags stored. -/
import Derived.Test.YtfcffbbafcpcgaaPgN
namespace Go.Proofs.Ytfcffbbafcpcgaa
open Go.ChangeShapes Go.WideShapes Go.ChangeAt Go.RowKit Go.PlainAid
set_option linter.unusedVariables false

/-- The copy with the flags of the first k items stored. -/
structure LateAt (xs zs : List Im) (k : Nat) : Prop where
  len : zs.length = xs.length
  ns : ∀ i, i < xs.length → (it zs i).ns = (it xs i).ns
  ms : ∀ i, i < xs.length → (it zs i).ms = (it xs i).ms
  late : ∀ i, i < k → (it zs i).late = decide (xs.length ≤ 2 * i)
theorem LateAt.start {xs zs : List Im} (h : SameS xs zs) : LateAt xs zs 0 := ⟨h.len, fun i hi => (h.each i hi).ns, fun i hi => (h.each i hi).ms, fun i hi => absurd hi (by omega)⟩
theorem LateAt.step {xs zs : List Im} {k : Nat} (h : LateAt xs zs k) (hk : k < xs.length) (b : Bool) (hb : b = decide (xs.length ≤ 2 * k)) : LateAt xs (zs.set k { it zs k with late := b }) (k + 1) := by
  have hz : k < zs.length := by have := h.len; omega
  refine ⟨by rw [List.length_set]; exact h.len, fun i hi => ?_, fun i hi => ?_, fun i hi => ?_⟩ <;> rw [it_set _ _ _ _ hz] <;> by_cases e : i = k
  · rw [if_pos e, e]
    exact h.ns k hk
  · rw [if_neg e]
    exact h.ns i hi
  · rw [if_pos e, e]
    exact h.ms k hk
  · rw [if_neg e]
    exact h.ms i hi
  · rw [if_pos e, e]
    exact hb
  · rw [if_neg e]
    exact h.late i (by omega)
theorem LateAt.done {xs zs : List Im} (h : LateAt xs zs xs.length) : SameS (lateS xs) zs := ⟨by rw [lateS_len]; exact h.len, fun i hi => by
  rw [lateS_len] at hi
  rw [lateS_it xs i hi]
  exact ⟨h.ns i hi, h.ms i hi, h.late i hi⟩⟩

set_option maxHeartbeats 2000000 in
theorem pgLate_cap (P : Option Addr) (c : Nat) (xs : List Im) (w : World) (hr : Ims w w.heap.size P xs) (hok : Near xs) :
    Calls Try.prog 25 #[.slice P xs.length c] w fun e w' => (∃ R d ys g G, e = .returned (.slice R ys.length d) ∧ (ys.length ≤ d ∧ d ≤ 9223372036854775807) ∧ SameS (lateS xs) ys ∧ ImsOwn (fun i => w.heap.size ≤ i ∧ i < w'.heap.size) w' R g G ys) ∧ Below w.heap.size w w' := by
  have HC := Lib.hid (itOwn_cap P c xs w hr hok)
  have h14 := hok.len
  clear hr hok
  go_enter Try.func25, Try.ntmps25
  go_wp2_with fail
  refine HC.out.mono ?_
  rintro e w1 ⟨⟨R, d, ys, g, G, rfl, hrm, hs, ho⟩, hb1⟩
  have HRM := Lib.hid (hs.len ▸ hrm)
  have HB1 := Lib.hid hb1
  have HS := Lib.hid hs
  have HO1 := Lib.hid ho
  have hlen := hs.len
  have hbs := hb1.size
  clear HC hb1 hs ho hrm
  rw [show ys.length = xs.length from hlen]
  rcases Nat.eq_zero_or_pos xs.length with h0 | h0
  · obtain rfl : xs = [] := List.eq_nil_of_length_eq_zero h0
    obtain rfl : ys = [] := List.eq_nil_of_length_eq_zero (by simpa using hlen)
    clear h0 hlen
    go_wp2
    go_loop [9] (fun i => i = .int .i64 0) (fun _ => 0)
    case atStart => rfl
    case round =>
      subst hrel
      go_wp2
      go_returns
      exact ⟨⟨R, d, [], rfl, HRM.out, SameS.refl _, g, G, HO1.out⟩, HB1.out⟩
  · obtain ⟨g', o, rfl, rfl, hg, ho⟩ := HO1.out.out (by omega)
    have HL0 := Lib.hid (LateAt.start HS.out)
    clear hg ho
    go_wp2_with fail
    go_loopw [9] (fun i wr => ∃ (k : Nat) (zs : List Im), k ≤ xs.length ∧ i = .int .i64 k ∧ Hid (LateAt xs zs k) ∧ Hid (ImsOwn (fun i => w.heap.size ≤ i ∧ i < w1.heap.size) wr (some ⟨g', o, none⟩) g' G zs) ∧ Hid (Only (fun i => w.heap.size ≤ i ∧ i < w1.heap.size) w1 wr)) (fun i _ => xs.length - (intOf i).toNat)
    case atStart => exact ⟨0, ys, Nat.zero_le _, rfl, HL0, HO1, Lib.hid (Only.refl _ _)⟩
    case round =>
      obtain ⟨k, zs, hk, rfl, HL, HO, HN⟩ := hrel
      by_cases hlt : k < xs.length
      · have hzl := HL.out.len
        have hkz : k < zs.length := by omega
        obtain ⟨g1, o1, e1, e2, hg, ho⟩ := HO.out.out (by omega)
        injection e1 with e1
        injection e1 with e3 e4
        subst e4 e2
        have hW := ho.im k hkz
        obtain ⟨⟨c0, c1, c2⟩, f0, f1, f2⟩ := hW
        have HG := Lib.hid (HO.out.sg (by omega))
        have HST := Lib.hid (HO.out.setLate k hkz)
        have HLS := Lib.hid (HL.out.step hlt)
        clear ho hzl hg
        have q1 : (0 : Int) ≤ (k : Int) := by omega
        have q2 : (k : Int) < (xs.length : Int) := by omega
        go_wp2_with fail
        go_roundw
        case rel => exact ⟨k + 1, _, by omega, by go_num, Lib.hid (HLS.out _ (by rw [Bool.eq_iff_iff]; simp; omega)), Lib.hid (HST.out _), Lib.hid (HN.out.setCell (by exact HG.out) _)⟩
        case measure => simp [intOf]; omega
      · obtain rfl : k = xs.length := by omega
        have HLD := Lib.hid HL.out.done
        have hzl := HL.out.len
        have hsz := HN.out.size
        go_wp2
        go_returns
        exact ⟨⟨some ⟨g', o, none⟩, d, zs, g', G, by rw [hzl]; rfl, by rw [hzl]; exact HRM.out, HLD.out, HO.out.mono (fun i hi => ⟨hi.1, Nat.lt_of_lt_of_le hi.2 hsz⟩)⟩, HB1.out.trans (HN.out.below hbs (fun i hi => hi.1))⟩

theorem pgLate_any (P : Option Addr) (c : Nat) (xs : List Im) (w : World) (hr : Ims w w.heap.size P xs) (hok : Near xs) :
    Calls Try.prog 25 #[.slice P xs.length c] w fun e w' => (∃ R d ys g G, e = .returned (.slice R ys.length d) ∧ SameS (lateS xs) ys ∧ ImsOwn (fun i => w.heap.size ≤ i ∧ i < w'.heap.size) w' R g G ys) ∧ Below w.heap.size w w' :=
  (pgLate_cap P c xs w hr hok).mono fun e w' ⟨⟨R, d, ys, g, G, h1, _, h3⟩, h4⟩ => ⟨⟨R, d, ys, g, G, h1, h3⟩, h4⟩
theorem sMarkLate_any (P : Option Addr) (c : Nat) (xs : List Im) (w : World) (hr : Ims w w.heap.size P xs) (hl : ImsFits xs) :
    Calls Try.prog 12 #[.slice P xs.length c] w fun e w' => (∃ R d ys g G, e = .returned (.tuple #[.slice R ys.length d, .bool (pB (ListOk xs))]) ∧ SameS (mlF xs) ys ∧ ImsOwn (fun i => w.heap.size ≤ i ∧ i < w'.heap.size) w' R g G ys) ∧ Below w.heap.size w w' := by
  have HA := Lib.hid (itList_any P c xs w hr hl)
  have HR := Lib.hid hr
  clear hr hl
  by_cases hok : ListOk xs
  · rw [pB_yes hok] at HA ⊢
    have HK := Lib.hid hok
    have HV := Lib.hid (mlF_yes hok)
    clear hok
    go_enter Try.func12, Try.ntmps12
    go_wp2_with fail
    refine HA.out.mono ?_
    rintro e w1 ⟨rfl, hb1⟩
    have HB1 := Lib.hid hb1
    clear hb1 HA
    go_wp2_with fail
    refine (pgLate_any P c xs w1 (HR.out.next HB1.out) HK.out.near).mono ?_
    rintro e w2 ⟨⟨R, d, ys, g, G, rfl, hs, ho⟩, hb2⟩
    have HB2 := Lib.hid (below_next HB1.out hb2)
    have HS := Lib.hid hs
    have hs1 := HB1.out.size
    have HO := Lib.hid (ho.mono (T := fun i => w.heap.size ≤ i ∧ i < w2.heap.size) (fun i hi => ⟨by omega, hi.2⟩))
    clear hb2 hs ho
    go_wp2
    go_returns
    exact ⟨⟨R, d, ys, g, G, rfl, by rw [HV.out]; exact HS.out, HO.out⟩, HB2.out⟩
  · rw [pB_no hok] at HA ⊢
    have HV := Lib.hid (mlF_no hok)
    clear hok
    go_enter Try.func12, Try.ntmps12
    go_wp2_with fail
    refine HA.out.mono ?_
    rintro e w1 ⟨rfl, hb1⟩
    have HB1 := Lib.hid hb1
    clear hb1 HA
    go_wp2
    go_returns
    exact ⟨⟨none, 0, [], 0, fun _ => 0, rfl, by rw [HV.out]; exact SameS.refl _, Owned.nil _ _ _, fun i hi => absurd hi (by simp), fun i hi => absurd hi (by simp), fun i hi => absurd hi (by simp), fun i j _ hi => absurd hi (by simp), fun hi => absurd hi (by simp), fun i hi => absurd hi (by simp)⟩, HB1.out⟩
end Go.Proofs.Ytfcffbbafcpcgaa
