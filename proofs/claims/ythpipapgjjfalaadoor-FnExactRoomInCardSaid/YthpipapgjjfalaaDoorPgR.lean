/- RoomIn in the model and in the program. -/
import Derived.Test.YthpipapgjjfalaaDoorPgD
namespace Go.Proofs.YthpipapgjjfalaaDoor
open Go.ChangeShapes Go.WideShapes Go.ChangeAt Go.RowKit
set_option linter.unusedVariables false

/-- The first k of the differences laid over a list. -/
def rmG (ls cs base : List Int) : Nat → List Int
  | 0 => base
  | k + 1 => (rmG ls cs base k).set k (it ls k - it cs k)
theorem rmG_len (ls cs base : List Int) : ∀ k, (rmG ls cs base k).length = base.length
  | 0 => rfl
  | k + 1 => by rw [rmG, List.length_set, rmG_len ls cs base k]
theorem rmG_ge (ls cs base : List Int) : ∀ k j, k ≤ j → it (rmG ls cs base k) j = it base j
  | 0, _, _ => rfl
  | k + 1, j, h => by
    rw [rmG]
    by_cases hk : k < (rmG ls cs base k).length
    · rw [it_set _ _ _ _ hk, if_neg (by omega)]
      exact rmG_ge ls cs base k j (by omega)
    · rw [List.set_eq_of_length_le (by omega)]
      exact rmG_ge ls cs base k j (by omega)
theorem rmG_full (ls cs base : List Int) (h : base.length = 5) : rmG ls cs base 5 = [it ls 0 - it cs 0, it ls 1 - it cs 1, it ls 2 - it cs 2, it ls 3 - it cs 3, it ls 4 - it cs 4] := by
  match base, h with
  | [a, b, c, d, e], _ => rfl
/-- What RoomIn answers. -/
noncomputable def rmF (x : Cd) (xs : List Im) : List Int := @ite _ (PgAsk x xs) (Classical.propDecidable _) (rmG x.lims (cntG x xs xs.length) (cntG x xs xs.length) 5) []
theorem rmF_yes {x : Cd} {xs : List Im} (h : PgAsk x xs) : rmF x xs = rmG x.lims (cntG x xs xs.length) (cntG x xs xs.length) 5 := by unfold rmF; rw [if_pos h]
theorem rmF_yes' {x : Cd} {xs : List Im} (h : PgAsk x xs) : rmF x xs = rmG x.lims (cntG x xs xs.length) (List.replicate 5 0) 5 := by rw [rmF_yes h, rmG_full _ _ _ (cntG_len _ _ _), rmG_full _ _ _ rfl]
theorem rmF_no {x : Cd} {xs : List Im} (h : ¬ PgAsk x xs) : rmF x xs = [] := by unfold rmF; rw [if_neg h]
theorem rmF_same {x : Cd} {xs ys : List Im} (h : SameS xs ys) : rmF x ys = rmF x xs := by
  by_cases k : PgAsk x xs
  · rw [rmF_yes k, rmF_yes (k.same h), h.len, cntG_same h _ (Nat.le_refl _)]
  · rw [rmF_no k, rmF_no (fun q => k (q.same h.symm))]
theorem rmF_len5 {x : Cd} {xs : List Im} (h : PgAsk x xs) : (rmF x xs).length = 5 := by rw [rmF_yes h, rmG_len, cntG_len]
theorem rmF_len (x : Cd) (xs : List Im) : (rmF x xs).length ≤ 1048576 := by
  by_cases k : PgAsk x xs
  · rw [rmF_len5 k]; decide
  · rw [rmF_no k]; decide

set_option maxRecDepth 20000 in
set_option maxHeartbeats 2000000 in
theorem sRoomIn_any (A L : Option Addr) (c d : Nat) (x : Cd) (P : Option Addr) (c1 : Nat) (xs : List Im) (w : World) (hr : CdAt w A L x) (hl : CdFits x) (hp : Ims w w.heap.size P xs) (hq : ImsFits xs) :
    Calls Tryd.prog 27 #[x.val A c L d, .slice P xs.length c1] w fun e w' => (∃ R d, e = .returned (.tuple #[.slice R (rmF x xs).length d, .bool (pB (PgAsk x xs))]) ∧ Owned (fun i => w.heap.size ≤ i ∧ i < w'.heap.size) w' R (rmF x xs)) ∧ Below w.heap.size w w' := by
  obtain ⟨W, hW, hB⟩ := boxed 33 w A c L d x
  have HB := Lib.hid hB.below
  have HX := Lib.hid hB.at_
  have HR := Lib.hid (hr.below hB.below)
  have HP := Lib.hid (hp.next hB.below)
  have HL := Lib.hid hl
  have HQ := Lib.hid hq
  clear hr hl hp hq hB
  unfold boxCd at hW
  unfold Cd.val
  go_enter Tryd.func27, Tryd.ntmps27
  go_wp2_with fail
  rw [← hW]
  clear hW
  refine (pgAsked_any A L c d x P c1 xs W HR.out HL.out HP.out HQ.out).mono ?_
  rintro e w1 ⟨he, hb1⟩
  have HB1 := Lib.hid hb1
  clear hb1
  by_cases hok : PgAsk x xs
  · rw [pB_yes hok] at he
    subst he
    have HK := Lib.hid hok
    have HLM := Lib.hid hok.cd.lims
    have HSM := Lib.hid (small_cntG x xs xs.length)
    have h14 := hok.ls.len
    clear hok
    obtain ⟨x0, x1, x2, x3, x4, x5⟩ := (HX.out.next HB1.out).box
    go_wp2_with fail
    clear x0 x1 x2 x3 x4 x5
    refine (pgCounts_any A L c d x P c1 xs w1 (HR.out.below HB1.out) HL.out (HP.out.next HB1.out) HQ.out HK.out).mono ?_
    rintro e w2 ⟨⟨g, rfl, h1, h2, h3⟩, hb2⟩
    have HB2 := Lib.hid (Below_next HB1.out hb2)
    have HO := Lib.hid h3
    have hs1 := HB1.out.size
    have hs0 := HB.out.size
    have HXg := Lib.hid (show W.heap.size ≤ g by omega)
    clear hb2 h3
    have hl5 := HK.out.cd.lims.len
    have hc5 := cntG_len x xs xs.length
    obtain ⟨cs, hcs⟩ : ∃ cs, cs = cntG x xs xs.length := ⟨_, rfl⟩
    rw [← hcs] at HO HSM hc5
    have HCS := Lib.hid hcs
    have hgw := h2
    clear hcs h2
    go_wp2
    go_loopw [18] (fun i wr => ∃ k : Nat, k ≤ 5 ∧ i = .int .i64 k ∧ Hid (OwnAt wr g 0 (rmG x.lims cs cs k)) ∧ g < wr.heap.size ∧ Hid (Below W.heap.size W wr)) (fun i _ => 5 - (intOf i).toNat)
    case atStart => exact ⟨0, Nat.zero_le _, rfl, HO, hgw, HB2⟩
    case round =>
      obtain ⟨k, hk, rfl, HG, hsr, HBR⟩ := hrel
      by_cases hlt : k < 5
      · have hk5 : k < (rmG x.lims cs cs k).length := by rw [rmG_len]; omega
        obtain ⟨d0, f0⟩ := HG.out.int0 k hk5
        rw [rmG_ge _ _ _ _ _ (Nat.le_refl _)] at d0
        obtain ⟨s1, s2⟩ := HSM.out k (by omega)
        obtain ⟨l1, l2⟩ := HLM.out.lim k (by omega)
        obtain ⟨b, o, rfl, hbl, hc⟩ := (HR.out.below HBR.out).lims.int (by omega)
        have m0 := hc k (by omega)
        obtain ⟨x0, x1, x2, x3, x4, x5⟩ := (HX.out.next HBR.out).box
        have HP2 := Lib.hid (HG.out.putInt0 k (it x.lims k - it cs k) hk5)
        rw [show (rmG x.lims cs cs k).set k (it x.lims k - it cs k) = rmG x.lims cs cs (k + 1) from rfl] at HP2
        have HXl := Lib.hid hl5
        rw [hl5] at x1
        clear hc hbl hk5 hl5
        go_wp2
        go_roundw
        case rel => exact ⟨k + 1, by omega, by go_num, HP2, by simpa [World.setCell] using hsr, Lib.hid (HBR.out.setCell HXg.out _)⟩
        case measure => simp [intOf]; omega
      · obtain rfl : k = 5 := by omega
        go_wp2
        go_returns
        rw [pB_yes HK.out, rmF_len5 HK.out]
        exact ⟨⟨_, 5, rfl, fun _ => ⟨g, 0, rfl, ⟨by omega, hsr⟩, hsr, by rw [rmF_yes HK.out, ← HCS.out]; exact HG.out⟩⟩, Below_next HB.out HBR.out⟩
  · rw [pB_no hok] at he
    subst he
    have HK := Lib.hid hok
    clear hok
    go_wp2
    go_returns
    rw [pB_no HK.out, rmF_no HK.out]
    exact ⟨⟨none, 0, rfl, Owned.nil _ _ _⟩, Below_next HB.out HB1.out⟩

set_option maxRecDepth 20000 in
set_option maxHeartbeats 4000000 in
theorem iRoomIn_any (A L : Option Addr) (c d : Nat) (x : Cd) (P : Option Addr) (c1 : Nat) (xs : List Im) (w : World) (hr : CdAt w A L x) (hl : CdFits x) (hp : Ims w w.heap.size P xs) (hq : ImsFits xs) (ht : Tab w) :
    Calls Tryd.prog 28 #[x.val A c L d, .slice P xs.length c1] w fun e w' => (∃ R d, e = .returned (.tuple #[.slice R (rmF x xs).length d, .bool (pB (PgAsk x xs))]) ∧ Owned (fun i => w.heap.size ≤ i ∧ i < w'.heap.size) w' R (rmF x xs)) ∧ Below w.heap.size w w' := by
  obtain ⟨W, hW, hB⟩ := boxed 33 w A c L d x
  have HB := Lib.hid hB.below
  have HX := Lib.hid hB.at_
  have HR := Lib.hid (hr.below hB.below)
  have HP := Lib.hid (hp.next hB.below)
  have HT := Lib.hid (ht.next hB.below)
  have HL := Lib.hid hl
  have HQ := Lib.hid hq
  clear hr hl hp hq hB ht
  unfold boxCd at hW
  unfold Cd.val
  go_enter Tryd.func28, Tryd.ntmps28
  go_wp2_with fail
  rw [← hW]
  clear hW
  refine (iFamilyCounts_any A L c d x P c1 xs W HR.out HL.out HP.out HQ.out HT.out).mono ?_
  rintro e w1 ⟨⟨R1, d1, he, ho⟩, hb1⟩
  have HB1 := Lib.hid hb1
  clear hb1
  by_cases hok : PgAsk x xs
  · rw [pB_yes hok, fcF_yes hok, cntG_len] at he
    rw [fcF_yes hok] at ho
    obtain ⟨g, o, rfl, hg1, hg2, hg3⟩ := ho (by rw [cntG_len]; decide)
    subst he
    have HK := Lib.hid hok
    have HLM := Lib.hid hok.cd.lims
    have hl5 := hok.cd.lims.len
    have h14 := hok.ls.len
    obtain ⟨cs, hcs⟩ : ∃ cs, cs = cntG x xs xs.length := ⟨_, rfl⟩
    rw [← hcs] at hg3
    have HO := Lib.hid hg3
    have HSM := Lib.hid (hcs ▸ small_cntG x xs xs.length)
    have hc5 : cs.length = 5 := by rw [hcs, cntG_len]
    have HCS := Lib.hid hcs
    have hs0 := HB.out.size
    have hs1 := HB1.out.size
    obtain ⟨i0, hi, hz0, hz1, hz2⟩ := info_parts Tryd.infoInt
    have HZ := Lib.hid (made_flat (α := Int) #[.int .i64 0] 0 5 rfl (by decide))
    clear hok hg1 hg3 hcs
    go_wp2_with (first | (at_make; refine wpList_make_full _ rfl (.const (.int .i64 5)) (.const (.int .i64 5)) 23 rfl w1.heap.size 3 i0 (.int .i64 0) 1 Tryd.underlying23 hi hz0 hz1 .i64 .i64 _ _ 5 rfl rfl rfl rfl (by rw [hz2]; omega) (by unfold maxLen; omega) (Nat.le_refl _) ?_; intro w2 hown hgrow))
    have HW := Lib.hid (show OwnAt w2 w1.heap.size 0 (rmG x.lims cs (List.replicate 5 0) 0) from own_of_row (α := Int) (cap := 5) (e := 3) (base := w1.heap.size) (List.replicate 5 (0 : Int)) (by rw [← HZ.out]; exact hown))
    have hb2 : Below w1.heap.size w1 w2 := (Below.refl _ _).grown hgrow (Nat.le_refl _) (fun k e => by cases e)
    have hs2 := (hown.lt w1.heap.size rfl).2
    have HB2 := Lib.hid hb2
    clear hown hgrow hb2 hi hz0 hz1 hz2
    go_loopw [22] (fun i wr => ∃ k : Nat, k ≤ 5 ∧ i = .int .i64 k ∧ Hid (OwnAt wr w1.heap.size 0 (rmG x.lims cs (List.replicate 5 0) k)) ∧ w1.heap.size < wr.heap.size ∧ Hid (Below w1.heap.size w1 wr)) (fun i _ => 5 - (intOf i).toNat)
    case atStart => exact ⟨0, Nat.zero_le _, rfl, HW, hs2, HB2⟩
    case round =>
      obtain ⟨k, hk, rfl, HG, hsr, HBR⟩ := hrel
      by_cases hlt : k < 5
      · have hk5 : k < (rmG x.lims cs (List.replicate 5 0) k).length := by rw [rmG_len]; simpa using hlt
        obtain ⟨d0, f0⟩ := HG.out.int0 k hk5
        obtain ⟨e0, _⟩ := (HO.out.block (HBR.out.block _ hg2)).int k (by omega)
        obtain ⟨s1, s2⟩ := HSM.out k (by omega)
        obtain ⟨l1, l2⟩ := HLM.out.lim k (by omega)
        have HBW := Lib.hid (Below_next HB1.out HBR.out)
        obtain ⟨b, o2, rfl, hbl, hc⟩ := (HR.out.below HBW.out).lims.int (by omega)
        have m0 := hc k (by omega)
        obtain ⟨x0, x1, x2, x3, x4, x5⟩ := (HX.out.next HBW.out).box
        have HP2 := Lib.hid (HG.out.putInt0 k (it x.lims k - it cs k) hk5)
        rw [show (rmG x.lims cs (List.replicate 5 0) k).set k (it x.lims k - it cs k) = rmG x.lims cs (List.replicate 5 0) (k + 1) from rfl] at HP2
        rw [hl5] at x1
        clear hc hbl hk5 hl5
        go_wp2
        go_roundw
        case rel => exact ⟨k + 1, by omega, by go_num, HP2, by simpa [World.setCell] using hsr, Lib.hid (HBR.out.setCell (Nat.le_refl _) _)⟩
        case measure => simp [intOf]; omega
      · obtain rfl : k = 5 := by omega
        go_wp2
        go_returns
        rw [pB_yes HK.out, rmF_len5 HK.out]
        exact ⟨⟨_, 5, rfl, fun _ => ⟨w1.heap.size, 0, rfl, ⟨by omega, hsr⟩, hsr, by rw [rmF_yes' HK.out, ← HCS.out]; exact HG.out⟩⟩, Below_next HB.out (Below_next HB1.out HBR.out)⟩
  · rw [pB_no hok, fcF_no hok] at he
    subst he
    have HK := Lib.hid hok
    clear hok ho
    go_wp2
    go_returns
    rw [pB_no HK.out, rmF_no HK.out]
    exact ⟨⟨none, 0, rfl, Owned.nil _ _ _⟩, Below_next HB.out HB1.out⟩
end Go.Proofs.YthpipapgjjfalaaDoor
