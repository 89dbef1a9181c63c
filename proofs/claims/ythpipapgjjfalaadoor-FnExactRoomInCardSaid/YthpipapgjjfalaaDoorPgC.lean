/- How many items of each family a list has, in the model and in the program. -/
import Derived.Test.YthpipapgjjfalaaDoorPgG
import Derived.Test.YthpipapgjjfalaaDoorItemC
namespace Go.Proofs.YthpipapgjjfalaaDoor
open Go.ChangeShapes Go.WideShapes Go.ChangeAt Go.RowKit
set_option linter.unusedVariables false

/-- The first name of item k. -/
def nam0 (xs : List Im) (k : Nat) : ByteArray := it (it xs k).ns 0
/-- The counts of the first k items. -/
noncomputable def cntG (x : Cd) (xs : List Im) : Nat → List Int
  | 0 => List.replicate 5 0
  | k + 1 => if 0 ≤ fndI x.els (nam0 xs k) then bump (cntG x xs k) (famI x (nam0 xs k)).toNat else cntG x xs k
theorem cntG_no {x : Cd} {xs : List Im} {k : Nat} (h : ¬ 0 ≤ fndI x.els (nam0 xs k)) : cntG x xs (k + 1) = cntG x xs k := if_neg h
theorem cntG_yes {x : Cd} {xs : List Im} {k : Nat} (h : 0 ≤ fndI x.els (nam0 xs k)) : cntG x xs (k + 1) = bump (cntG x xs k) (famI x (nam0 xs k)).toNat := if_pos h
theorem cntG_len (x : Cd) (xs : List Im) : ∀ k, (cntG x xs k).length = 5
  | 0 => rfl
  | k + 1 => by
    by_cases h : 0 ≤ fndI x.els (nam0 xs k)
    · rw [cntG_yes h, bump_len, cntG_len x xs k]
    · rw [cntG_no h, cntG_len x xs k]
theorem small_cntG (x : Cd) (xs : List Im) : ∀ k : Nat, Small (cntG x xs k) k
  | 0 => fun i hi => by
    rw [cntG_len] at hi
    have : it (cntG x xs 0) i = 0 := by
      unfold it cntG
      rw [List.getD_eq_getElem?_getD, List.getElem?_replicate, if_pos hi]
      rfl
    rw [this]
    simp
  | k + 1 => by
    by_cases h : 0 ≤ fndI x.els (nam0 xs k)
    · rw [cntG_yes h]
      have := small_bump (small_cntG x xs k) (famI x (nam0 xs k)).toNat (by omega)
      intro i hi
      have := this i hi
      omega
    · rw [cntG_no h]
      intro i hi
      have := small_cntG x xs k i hi
      omega
theorem nam0_same {xs ys : List Im} (h : SameS xs ys) (k : Nat) (hk : k < xs.length) : nam0 ys k = nam0 xs k := by
  unfold nam0
  rw [(h.each k hk).ns]
theorem cntG_same {x : Cd} {xs ys : List Im} (h : SameS xs ys) : ∀ k, k ≤ xs.length → cntG x ys k = cntG x xs k
  | 0, _ => rfl
  | k + 1, hk => by rw [cntG, cntG, cntG_same h k (by omega), nam0_same h k (by omega)]
/-- A valid code and a valid list. -/
structure PgAsk (x : Cd) (xs : List Im) : Prop where
  cd : CdOk x
  ls : ListOk xs
theorem PgAsk.same {x : Cd} {xs ys : List Im} (h : SameS xs ys) (k : PgAsk x xs) : PgAsk x ys := ⟨k.cd, k.ls.same h⟩
theorem pgAsk_same {x : Cd} {xs ys : List Im} (h : SameS xs ys) : pB (PgAsk x ys) = pB (PgAsk x xs) := pB_iff ⟨fun k => k.same h.symm, fun k => k.same h⟩

set_option maxHeartbeats 1000000 in
theorem pgAsked_any (A L : Option Addr) (c d : Nat) (x : Cd) (P : Option Addr) (c1 : Nat) (xs : List Im) (w : World) (hr : CdAt w A L x) (hl : CdFits x) (hp : Ims w w.heap.size P xs) (hq : ImsFits xs) :
    Calls Tryd.prog 31 #[x.val A c L d, .slice P xs.length c1] w fun e w' => e = .returned (.bool (pB (PgAsk x xs))) ∧ Below w.heap.size w w' := by
  obtain ⟨W, hW, hB⟩ := boxed 33 w A c L d x
  have HB := Lib.hid hB.below
  have HR := Lib.hid (hr.below hB.below)
  have HP := Lib.hid (hp.next hB.below)
  have HL := Lib.hid hl
  have HQ := Lib.hid hq
  clear hr hl hp hq hB
  unfold boxCd at hW
  unfold Cd.val
  go_enter Tryd.func31, Tryd.ntmps31
  go_wp2_with fail
  rw [← hW]
  clear hW
  refine (cdGood_any A L c d x W HR.out HL.out).mono ?_
  rintro e w1 ⟨he, hb1⟩
  have HB1 := Lib.hid hb1
  clear hb1
  by_cases hok : CdOk x
  · rw [pB_yes hok] at he
    subst he
    go_wp2_with fail
    refine (itList_any P c1 xs w1 (HP.out.next HB1.out) HQ.out).mono ?_
    rintro e w2 ⟨he, hb2⟩
    have HB2 := Lib.hid (Below_next HB1.out hb2)
    have HV := Lib.hid (show pB (ListOk xs) = pB (PgAsk x xs) from pB_iff ⟨fun h => ⟨hok, h⟩, fun h => h.ls⟩)
    rw [HV.out] at he
    subst he
    clear hb2 hok
    go_wp2
    go_ret
    exact ⟨rfl, Below_next HB.out HB2.out⟩
  · rw [pB_no hok] at he
    subst he
    have HV := Lib.hid (pB_no (fun h : PgAsk x xs => hok h.cd))
    clear hok
    go_wp2
    go_ret
    exact ⟨by rw [HV.out]; rfl, Below_next HB.out HB1.out⟩

set_option maxRecDepth 20000 in
set_option maxHeartbeats 2000000 in
theorem pgCounts_any (A L : Option Addr) (c d : Nat) (x : Cd) (P : Option Addr) (c1 : Nat) (xs : List Im) (w : World) (hr : CdAt w A L x) (hl : CdFits x) (hp : Ims w w.heap.size P xs) (hq : ImsFits xs) (hk : PgAsk x xs) :
    Calls Tryd.prog 48 #[x.val A c L d, .slice P xs.length c1] w fun e w' => (∃ g, e = .returned (.slice (some ⟨g, 0, none⟩) 5 5) ∧ w.heap.size ≤ g ∧ g < w'.heap.size ∧ OwnAt w' g 0 (cntG x xs xs.length)) ∧ Below w.heap.size w w' := by
  obtain ⟨W, hW, hB⟩ := boxed 33 w A c L d x
  have HB := Lib.hid hB.below
  have HX := Lib.hid hB.at_
  have HR := Lib.hid (hr.below hB.below)
  have HP := Lib.hid (hp.next hB.below)
  have HL := Lib.hid hl
  have HQ := Lib.hid hq
  have HK := Lib.hid hk
  have HS := Lib.hid (small_cntG x xs)
  have h14 := hk.ls.len
  have HSW := Lib.hid hB.size
  obtain ⟨i0, hi, hz0, hz1, hz2⟩ := info_parts Tryd.infoInt
  have HZ := Lib.hid (made_flat (α := Int) #[.int .i64 0] 0 5 rfl (by decide))
  clear hr hl hp hq hB hk
  unfold boxCd at hW
  unfold Cd.val
  go_enter Tryd.func48, Tryd.ntmps48
  go_wp2_with (first | (at_make; rw [← hW]; refine wpList_make_full _ rfl (.const (.int .i64 5)) (.const (.int .i64 5)) 23 rfl W.heap.size 3 i0 (.int .i64 0) 1 Tryd.underlying23 hi hz0 hz1 .i64 .i64 _ _ 5 rfl rfl rfl rfl (by rw [hz2]; omega) (by unfold maxLen; omega) (Nat.le_refl _) ?_; intro w2 hown hgrow))
  have HW := Lib.hid (show OwnAt w2 W.heap.size 0 (cntG x xs 0) from own_of_row (α := Int) (cap := 5) (e := 3) (base := W.heap.size) (List.replicate 5 (0 : Int)) (by rw [← HZ.out]; exact hown))
  have hb2 : Below W.heap.size W w2 := (Below.refl _ _).grown hgrow (Nat.le_refl _) (fun k e => by cases e)
  have hs2 := (hown.lt W.heap.size rfl).2
  clear hown hgrow hW
  rw [HSW.out] at HW hs2
  go_loopw [12] (fun i wr => ∃ k : Nat, k ≤ xs.length ∧ i = .int .i64 k ∧ Hid (OwnAt wr (w.heap.size + 1) 0 (cntG x xs k)) ∧ w.heap.size + 1 < wr.heap.size ∧ Hid (Below W.heap.size W wr)) (fun i _ => xs.length - (intOf i).toNat)
  case atStart => exact ⟨0, Nat.zero_le _, rfl, HW, hs2, Lib.hid hb2⟩
  case round =>
    obtain ⟨k, hk, rfl, HO, hsr, HBR⟩ := hrel
    by_cases hlt : k < xs.length
    · obtain ⟨b, o, rfl, hbl, hc⟩ := HP.out.out.im (by omega)
      obtain ⟨c0, c1, c2⟩ := (hc k hlt).below HBR.out hbl
      have hp0 : 0 < (it xs k).ns.length := (HK.out.ls.each k hlt).lo
      have HI := Lib.hid ((HP.out.next HBR.out).each k hlt)
      have HF := Lib.hid (HQ.out.each k hlt)
      obtain ⟨x0, x1, x2, x3, x4, x5⟩ := (HX.out.next HBR.out).box
      have hxl := (HX.out.next HBR.out).lt
      clear hc hbl
      rcases famI_ok HK.out.cd (nam0 xs k) with ⟨h1, h2⟩ | ⟨h1, h2, h3⟩
      · have HV := Lib.hid (cntG_no h2)
        have HN := Lib.hid h1
        clear h1 h2 hp0
        go_wp2_with (go_at_call 43; refine (pgFamily_any A L c d x (it xs k) _ (HR.out.below (Below_next HBR.out (below_alloc _ _))) HL.out (HI.out.next (below_alloc _ _)) (HK.out.ls.each k hlt).lo).mono ?_; rintro e w3 ⟨rfl, hb3⟩; rw [show famI x (it (it xs k).ns 0) = -1 from HN.out]; have HB3 := Lib.hid (below_next (below_alloc _ _) hb3); clear hb3)
        clear c0 c1 c2 x0 x1 x2 x3 x4 x5
        go_roundw
        case rel => exact ⟨k + 1, by omega, by go_num, by rw [HV.out]; exact Lib.hid (HO.out.block (HB3.out.block _ hsr)), by have := HB3.out.size; omega, Lib.hid (Below_next HBR.out HB3.out)⟩
        case measure => simp [intOf]; omega
      · obtain ⟨n, hn⟩ : ∃ n : Nat, famI x (nam0 xs k) = (n : Int) := ⟨_, (Int.toNat_of_nonneg h1).symm⟩
        rw [hn] at h2
        have hn5 : n < (cntG x xs k).length := by rw [cntG_len]; omega
        have HN := Lib.hid hn
        have HV := Lib.hid (show (cntG x xs k).set n (it (cntG x xs k) n + 1) = cntG x xs (k + 1) by rw [cntG_yes h3, hn]; rfl)
        obtain ⟨s1, s2⟩ := HS.out k n hn5
        have HO2 := Lib.hid (fun (w' : World) (h : Below wr.heap.size wr w') => HO.out.block (h.block _ hsr))
        clear h1 h3 hn hp0
        go_wp2_with (go_at_call 43; refine (pgFamily_any A L c d x (it xs k) _ (HR.out.below (Below_next HBR.out (below_alloc _ _))) HL.out (HI.out.next (below_alloc _ _)) (HK.out.ls.each k hlt).lo).mono ?_; rintro e w3 ⟨rfl, hb3⟩; rw [show famI x (it (it xs k).ns 0) = (n : Int) from HN.out]; have HB3 := Lib.hid (below_next (below_alloc _ _) hb3); clear hb3; obtain ⟨d0, f0⟩ := (HO2.out _ HB3.out).int0 n hn5)
        clear c0 c1 c2 x0 x1 x2 x3 x4 x5
        have HP2 := Lib.hid ((HO2.out _ HB3.out).putInt0 n (it (cntG x xs k) n + 1) hn5)
        rw [HV.out] at HP2
        go_roundw
        case rel => exact ⟨k + 1, by omega, by go_num, HP2, by have := HB3.out.size; simp [World.setCell]; omega, Lib.hid ((Below_next HBR.out HB3.out).setCell (Nat.le_of_eq HSW.out) _)⟩
        case measure => simp [intOf]; omega
    · obtain rfl : k = xs.length := by omega
      go_wp2
      go_ret
      exact ⟨⟨w.heap.size + 1, rfl, Nat.le_succ _, hsr, HO.out⟩, Below_next HB.out HBR.out⟩
end Go.Proofs.YthpipapgjjfalaaDoor
