/- MarkLate of the program: a copy of the list, its flags stored one by one. -/
import Derived.Test.YtfcffbbafcpcgaaPgO
import Derived.Test.YtfcffbbafcpcgaaHiS
import Derived.Test.YtfcffbbafcpcgaaItemH
namespace Go.Proofs.Ytfcffbbafcpcgaa
open Go.ChangeShapes Go.WideShapes Go.ChangeAt Go.RowKit Go.PlainAid
set_option linter.unusedVariables false

theorem isLatePlace_any (i n : Nat) (w : World) (hi : i ≤ 1048576) (hn : n ≤ 1048576) :
    Calls Try.prog 26 #[.int .i64 i, .int .i64 n] w fun e w' => e = .returned (.bool (decide (n ≤ 2 * i))) ∧ w = w' := by
  have h : decide ((n : Int) ≤ 2 * (i : Int)) = decide (n ≤ 2 * i) := by rw [Bool.eq_iff_iff]; simp; omega
  have H := Lib.hid h
  clear h
  go_enter Try.func26, Try.ntmps26
  go_wp2
  go_ret
  exact ⟨by rw [← H.out]; rfl, rfl⟩
def setLt (y : Im) (b : Bool) : Im := ⟨y.A, y.c, y.L, y.d, y.ns, y.ms, b⟩
theorem ImsOwn.putLate {S : Nat → Prop} {w : World} {P : Option Addr} {g : Nat} {G : Nat → Nat} {ys : List Im} (h : ImsOwn S w P g G ys) (k : Nat) (hk : k < ys.length) (b o : Nat) (hP : P = some ⟨b, o, none⟩) (v : Bool) :
    ImsOwn S (w.setCell ⟨b, o + k * 3 + 2, none⟩ (.bool v)) P g G (ys.set k (setLt (it ys k) v)) := by
  obtain ⟨b', o', e1, e2, hlt, hO⟩ := h.out (by omega)
  rw [hP] at e1
  injection e1 with e1
  injection e1 with e3 e4
  subst e3 e4
  have ho : Only (fun i => i = g) w (w.setCell ⟨b, o + k * 3 + 2, none⟩ (.bool v)) := Only.put (Only.refl _ w) b _ e2 _
  refine ⟨fun _ => ⟨b, o, hP, e2, Nat.lt_of_lt_of_le hlt ho.size, hO.setLate k hk (setLt (it ys k) v) rfl rfl rfl rfl rfl rfl⟩, fun i hi => ?_, fun i hi => ?_, fun i hi => h.ne i (by simpa using hi), fun i m him hm => h.inj i m him (by simpa using hm), fun _ => h.sg (by omega), fun i hi => h.sG i (by simpa using hi)⟩
  · rw [List.length_set] at hi
    rw [it_set _ _ _ _ hk]
    have := (h.ns i hi).keep ho (fun a q1 q2 => h.ne (2 * i) (by omega) (q1.symm.trans q2))
    by_cases e : i = k
    · subst e
      rw [if_pos rfl]
      exact this
    · rw [if_neg e]
      exact this
  · rw [List.length_set] at hi
    rw [it_set _ _ _ _ hk]
    have := (h.ms i hi).keep ho (fun a q1 q2 => h.ne (2 * i + 1) (by omega) (q1.symm.trans q2))
    by_cases e : i = k
    · subst e
      rw [if_pos rfl]
      exact this
    · rw [if_neg e]
      exact this
/-- The first k flags are set. -/
structure LtTo (xs zs : List Im) (k : Nat) : Prop where
  len : zs.length = xs.length
  ns : ∀ i, i < xs.length → (it zs i).ns = (it xs i).ns
  ms : ∀ i, i < xs.length → (it zs i).ms = (it xs i).ms
  lt : ∀ i, i < k → i < xs.length → (it zs i).late = decide (xs.length ≤ 2 * i)
theorem LtTo.zero {xs zs : List Im} (h : SameS xs zs) : LtTo xs zs 0 := ⟨h.len, fun i hi => (h.each i hi).ns, fun i hi => (h.each i hi).ms, fun i hi => absurd hi (by omega)⟩
theorem LtTo.step {xs zs : List Im} {k : Nat} (h : LtTo xs zs k) (hk : k < xs.length) : LtTo xs (zs.set k (setLt (it zs k) (decide (xs.length ≤ 2 * k)))) (k + 1) := by
  have hl := h.len
  have hs : ∀ i, it (zs.set k (setLt (it zs k) (decide (xs.length ≤ 2 * k)))) i = if i = k then setLt (it zs k) (decide (xs.length ≤ 2 * k)) else it zs i := fun i => it_set _ _ _ _ (by omega)
  refine ⟨by rw [List.length_set]; exact hl, fun i hi => ?_, fun i hi => ?_, fun i hi hx => ?_⟩
  · rw [hs]
    by_cases e : i = k
    · subst e
      rw [if_pos rfl]
      exact h.ns i hi
    · rw [if_neg e]
      exact h.ns i hi
  · rw [hs]
    by_cases e : i = k
    · subst e
      rw [if_pos rfl]
      exact h.ms i hi
    · rw [if_neg e]
      exact h.ms i hi
  · rw [hs]
    by_cases e : i = k
    · subst e
      rw [if_pos rfl]
      rfl
    · rw [if_neg e]
      exact h.lt i (by omega) hx
theorem LtTo.done {xs zs : List Im} (h : LtTo xs zs xs.length) : SameS (lateS xs) zs := by
  refine ⟨by rw [lateS_len]; exact h.len, fun i hi => ?_⟩
  rw [lateS_len] at hi
  rw [lateS_it xs i hi]
  exact ⟨h.ns i hi, h.ms i hi, h.lt i hi hi⟩
set_option maxRecDepth 20000 in
set_option maxHeartbeats 2000000 in
theorem iMarkLate_any (P : Option Addr) (c : Nat) (xs : List Im) (w : World) (hr : Ims w w.heap.size P xs) (hl : ImsFits xs) :
    Calls Try.prog 13 #[.slice P xs.length c] w fun e w' => (∃ R d ys g G, e = .returned (.tuple #[.slice R ys.length d, .bool (pB (ListOk xs))]) ∧ SameS (mlF xs) ys ∧ ImsOwn (fun i => w.heap.size ≤ i ∧ i < w'.heap.size) w' R g G ys) ∧ Below w.heap.size w w' := by
  have HA := Lib.hid (iAreItems_any P c xs w hr hl)
  have HR := Lib.hid hr
  clear hr hl
  by_cases hok : ListOk xs
  · rw [pB_yes hok] at HA ⊢
    have HK := Lib.hid hok
    have h14 := hok.len
    have HV := Lib.hid (mlF_yes hok)
    clear hok
    go_enter Try.func13, Try.ntmps13
    go_wp2_with fail
    refine HA.out.mono ?_
    rintro e w1 ⟨rfl, hb1⟩
    have HB1 := Lib.hid hb1
    have hs1 := hb1.size
    clear hb1 HA
    go_wp2_with fail
    refine (copyOfItems_any P c xs w1 (HR.out.next HB1.out) HK.out).mono ?_
    rintro e w2 ⟨⟨R, d, ys, g, G, rfl, hsm, ho⟩, hb2⟩
    have HL := Lib.hid hsm.len
    have HO := Lib.hid (ho.mono (T := fun i => w.heap.size ≤ i ∧ i < w2.heap.size) (fun i hi => ⟨Nat.le_trans hs1 hi.1, hi.2⟩))
    have HS := Lib.hid (LtTo.zero hsm)
    have HB2 := Lib.hid (below_next HB1.out hb2)
    clear hsm ho hb2
    rw [HL.out]
    go_wp2_with fail
    go_loopw [13] (fun q wr => ∃ (k : Nat) (zs : List Im), k ≤ xs.length ∧ q = .int .i64 k ∧ Hid (LtTo xs zs k) ∧ Hid (ImsOwn (fun i => w.heap.size ≤ i ∧ i < w2.heap.size) wr R g G zs) ∧ Hid (Below w.heap.size w wr) ∧ Hid (w2.heap.size ≤ wr.heap.size)) (fun q _ => xs.length - (intOf q).toNat)
    case atStart => exact ⟨0, ys, Nat.zero_le _, rfl, HS, HO, HB2, Lib.hid (Nat.le_refl _)⟩
    case round =>
      obtain ⟨k, zs, hk, rfl, HZ, HI, HB, HW⟩ := hrel
      by_cases hlt : k < xs.length
      · have hkz : k < zs.length := by have := HZ.out.len; omega
        obtain ⟨b, o, hP, hgb, hbl, hO⟩ := HI.out.out (by omega)
        subst hP
        have HP := Lib.hid (HI.out.putLate k hkz b o rfl (decide (xs.length ≤ 2 * k)))
        have HZ' := Lib.hid (HZ.out.step hlt)
        have HQ := Lib.hid (show w.heap.size ≤ b from hgb ▸ (HI.out.sg (by omega)).1)
        have q1 : (0 : Int) ≤ (k : Int) := by omega
        have q2 : (k : Int) < (xs.length : Int) := by omega
        have hfr := (hO.im k hkz).f2
        have hcc := (hO.im k hkz).c2
        clear hgb hO hkz
        go_wp2_with (go_at_call 26; refine (isLatePlace_any k xs.length _ (by omega) (by omega)).mono ?_; rintro e w' ⟨rfl, rfl⟩)
        go_roundw
        case rel => exact ⟨k + 1, _, by omega, by go_num, HZ', HP, Lib.hid (HB.out.setCell HQ.out _), Lib.hid (Nat.le_trans HW.out (by simp [World.setCell]))⟩
        case measure => simp [intOf]; omega
      · obtain rfl : k = xs.length := by omega
        have HZL := Lib.hid HZ.out.len
        go_wp2
        go_returns
        exact ⟨⟨R, d, zs, g, G, by rw [HZL.out]; rfl, by rw [HV.out]; exact HZ.out.done, HI.out.mono (fun i hi => ⟨hi.1, Nat.lt_of_lt_of_le hi.2 HW.out⟩)⟩, HB.out⟩
  · rw [pB_no hok] at HA ⊢
    have HV := Lib.hid (mlF_no hok)
    clear hok
    go_enter Try.func13, Try.ntmps13
    go_wp2_with fail
    refine HA.out.mono ?_
    rintro e w1 ⟨rfl, hb1⟩
    have HB1 := Lib.hid hb1
    clear hb1 HA
    go_wp2
    go_returns
    exact ⟨⟨none, 0, [], 0, fun _ => 0, rfl, by rw [HV.out]; exact SameS.refl _, Owned.nil _ _ _, fun i hi => absurd hi (by simp), fun i hi => absurd hi (by simp), fun i hi => absurd hi (by simp), fun i j _ hi => absurd hi (by simp), fun hi => absurd hi (by simp), fun i hi => absurd hi (by simp)⟩, HB1.out⟩
end Go.Proofs.Ytfcffbbafcpcgaa
