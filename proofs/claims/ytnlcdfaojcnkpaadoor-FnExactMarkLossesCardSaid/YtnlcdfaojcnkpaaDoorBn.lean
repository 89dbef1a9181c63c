/- Losses by marks, in plain words and in the program. FamilyBases in the program. MarkLosses and FamilyBases in the model. -/
import Derived.Test.YtnlcdfaojcnkpaaDoorBm
import Derived.Test.YtnlcdfaojcnkpaaDoorBo
import Derived.Test.YtnlcdfaojcnkpaaDoorBf
import Derived.Test.YtnlcdfaojcnkpaaDoorBb
import Derived.Deep.RegionHeld3
import Derived.RegionTactic
import Derived.BigRegion
import Derived.Test.YtnlcdfaojcnkpaaDoorBe
import Derived.Test.YtnlcdfaojcnkpaaDoorBl
import Derived.Deep.RegionWith
namespace Go.Proofs.YtnlcdfaojcnkpaaDoor
open Go.ChangeShapes Go.WideShapes Go.ChangeAt Go.RowKit Go.PlainAid
set_option linter.unusedVariables false

theorem zer_it (n i : Nat) (hi : i < n) : it (zer n) i = 0 := by
  unfold it zer
  rw [List.getD_eq_getElem?_getD, List.getElem?_replicate, if_pos hi]
  rfl
theorem listOk_cln {xs : List Im} (h : ListOk xs) : ListOk (xs.map clnIm) := ⟨by rw [List.length_map]; exact h.len, fun i hi => by
  rw [List.length_map] at hi
  have e := h.each i hi
  rw [cln_it xs i hi]
  exact ⟨e.lo, e.hi, zer_len _, e.nm, fun j hj => by
    have hj' : j < (it xs i).ns.length := by
      have h1 : (clnIm (it xs i)).ms.length = (it xs i).ns.length := zer_len _
      omega
    show 0 ≤ it (zer (it xs i).ns.length) j ∧ it (zer (it xs i).ns.length) j ≤ 3
    rw [zer_it _ _ hj']
    omega⟩⟩
theorem bsOk_cln {x : Cd} {xs : List Im} (h : BsOk x xs) : BsOk x (xs.map clnIm) := ⟨h.cd, listOk_cln h.list, fun i hi j hj => by
  rw [List.length_map] at hi
  rw [cln_it xs i hi] at hj ⊢
  exact h.know i hi j hj⟩
/-- The bases without marks, less those with marks for the first k items. -/
noncomputable def lsG (x : Cd) (xs : List Im) : Nat → List Int
  | 0 => basTo x (xs.map clnIm) xs.length
  | k + 1 => (lsG x xs k).set k (it (lsG x xs k) k - basI x xs k)
theorem lsG_len (x : Cd) (xs : List Im) : ∀ k, (lsG x xs k).length = xs.length
  | 0 => basTo_len _ _ _
  | k + 1 => by rw [lsG, List.length_set, lsG_len x xs k]
theorem it_set_int (l : List Int) (k j : Nat) (v : Int) (hk : k < l.length) : it (l.set k v) j = if j = k then v else it l j := by
  unfold it
  rw [List.getD_eq_getElem?_getD, List.getD_eq_getElem?_getD]
  by_cases e : j = k
  · subst e
    rw [List.getElem?_set_self hk, if_pos rfl]
    rfl
  · rw [List.getElem?_set_ne (fun q => e q.symm), if_neg e]
theorem lsG_it (x : Cd) (xs : List Im) : ∀ k j, k ≤ xs.length → j < xs.length → it (lsG x xs k) j = if j < k then basI x (xs.map clnIm) j - basI x xs j else basI x (xs.map clnIm) j
  | 0, j, _, hj => by rw [lsG, basTo_it _ _ _ _ hj, if_neg (by omega)]
  | k + 1, j, hk, hj => by
    rw [lsG, it_set_int _ _ _ _ (by rw [lsG_len]; omega)]
    by_cases e : j = k
    · subst e
      rw [if_pos rfl, if_pos (by omega), lsG_it x xs j j (by omega) hj, if_neg (by omega)]
    · rw [if_neg e, lsG_it x xs k j (by omega) hj]
      by_cases h3 : j < k
      · rw [if_pos h3, if_pos (by omega)]
      · rw [if_neg h3, if_neg (by omega)]
theorem mlTo_it (x : Cd) (xs : List Im) : ∀ n k, k < n → it (mlTo x xs n) k = basI x (xs.map clnIm) k - basI x xs k
  | n + 1, k, hk => by
    unfold it
    rw [mlTo]
    rcases Nat.lt_or_ge k n with h | h
    · rw [List.getD_eq_getElem?_getD, List.getElem?_append_left (by rw [mlTo_len]; exact h), ← List.getD_eq_getElem?_getD]
      exact mlTo_it x xs n k h
    · obtain rfl : k = n := by omega
      rw [List.getD_eq_getElem?_getD, List.getElem?_append_right (by rw [mlTo_len]; exact Nat.le_refl _), mlTo_len]
      simp
theorem lsG_all (x : Cd) (xs : List Im) : lsG x xs xs.length = mlTo x xs xs.length := ints_ext (by rw [lsG_len, mlTo_len]) (fun j hj => by
  rw [lsG_len] at hj
  rw [lsG_it x xs _ j (Nat.le_refl _) hj, if_pos hj, mlTo_it x xs _ j hj])
theorem lsG_small {x : Cd} {xs : List Im} (h : BsOk x xs) (k j : Nat) (hk : k ≤ xs.length) (hj : j < xs.length) : -20000 ≤ it (lsG x xs k) j ∧ it (lsG x xs k) j ≤ 20000 := by
  have h1 := basI_le h hj
  have h2 := basI_le (bsOk_cln h) (show j < (xs.map clnIm).length by rw [List.length_map]; exact hj)
  rw [lsG_it x xs k j hk hj]
  split <;> omega

set_option maxHeartbeats 2000000 in
theorem iMarkLosses_any (A L : Option Addr) (c d : Nat) (x : Cd) (P : Option Addr) (c1 : Nat) (xs : List Im) (w : World) (hr : CdAt w A L x) (hl : CdFits x) (hp : Ims w w.heap.size P xs) (hq : ImsFits xs) (ht : Tab w) :
    Calls Tryd.prog 19 #[x.val A c L d, .slice P xs.length c1] w fun e w' => (∃ R d, e = .returned (.tuple #[.slice R (blF x xs).length d, .bool (pB (BsOk x xs))]) ∧ Owned (fun i => w.heap.size ≤ i ∧ i < w'.heap.size) w' R (blF x xs)) ∧ Below w.heap.size w w' := by
  obtain ⟨W, hW, hB⟩ := boxed 31 w A c L d x
  have HB := Lib.hid hB.below
  have HX := Lib.hid hB.at_
  have HR := Lib.hid (hr.below hB.below)
  have HP := Lib.hid (hp.next hB.below)
  have HT := Lib.hid (ht.next hB.below)
  have HL := Lib.hid hl
  have HQ := Lib.hid hq
  clear hr hl hp hq hB ht
  unfold boxCd at hW
  unfold Cd.val
  go_enter Tryd.func19, Tryd.ntmps19
  obtain ⟨x0, x1, x2, x3, x4, x5⟩ := HX.out.box
  rw [hW] at x0 x1 x2 x3 x4 x5
  go_wp2_with fail
  rw [← hW]
  clear hW x0 x1 x2 x3 x4 x5
  refine (iBaseValues_any A L c d x P c1 xs W HR.out HL.out HP.out HQ.out HT.out).mono ?_
  rintro e w1 ⟨⟨R, d1, rfl, ho⟩, hb1⟩
  have HB1 := Lib.hid hb1
  clear hb1
  by_cases hok : BsOk x xs
  rotate_left
  · have HK := Lib.hid hok
    rw [pB_no hok]
    clear hok ho
    go_wp2
    go_returns
    rw [pB_no HK.out, blF_no HK.out]
    exact ⟨⟨none, 0, rfl, Owned.nil _ _ _⟩, Below_next HB.out HB1.out⟩
  rw [bvF_yes hok] at ho ⊢
  rw [pB_yes hok, basTo_len]
  have HO := Lib.hid ho.lst
  have HK := Lib.hid hok
  have h14 := hok.list.len
  clear hok ho
  go_wp2_with fail
  refine (iCleanItems_any P c1 xs w1 (HP.out.next HB1.out) HQ.out).mono ?_
  rintro e w2 ⟨⟨R2, d2, ys, g, G, rfl, hs, hi⟩, hb2⟩
  have HB2 := Lib.hid (Below_next HB1.out hb2)
  have HO2 := Lib.hid ((HO.out.below hb2 (Nat.le_refl _)).up hb2.size)
  rw [clnF_yes HK.out.list] at hs
  have HS := Lib.hid hs
  have HI := Lib.hid hi.ims
  have HKY := Lib.hid ((bsOk_same hs).1 (bsOk_cln HK.out))
  have HYL := Lib.hid (show ys.length = xs.length from by rw [hs.len, List.length_map])
  have HYB := Lib.hid (show basTo x ys ys.length = lsG x xs 0 from by
    rw [HYL.out, ← basTo_same hs xs.length (by rw [List.length_map]; exact Nat.le_refl _)]
    rfl)
  clear hb2 hs hi
  obtain ⟨x0, x1, x2, x3, x4, x5⟩ := (HX.out.next HB2.out).box
  go_wp2_with fail
  clear x0 x1 x2 x3 x4 x5
  refine (basesIn_any A L c d x R2 d2 ys w2 (HR.out.below HB2.out) HL.out HI.out HKY.out).mono ?_
  rintro e w3 ⟨⟨R3, d3, rfl, ho3⟩, hb3⟩
  rw [HYB.out] at ho3 ⊢
  rw [lsG_len]
  have HBL0 := Lib.hid (basTo_len x xs xs.length)
  have HO3 := Lib.hid ho3
  have HB3 := Lib.hid hb3
  have hz0 := HB.out.size
  have hz2 := HB2.out.size
  clear ho3 hb3
  go_wp2_with fail
  go_loopw [31] (fun i wr => ∃ k : Nat, k ≤ xs.length ∧ i = .int .i64 k ∧ Hid (Owned (fun i => w2.heap.size ≤ i ∧ i < w3.heap.size) wr R3 (lsG x xs k)) ∧ Hid (Below w2.heap.size w2 wr)) (fun i _ => xs.length - (intOf i).toNat)
  case atStart => exact ⟨0, Nat.zero_le _, rfl, HO3, HB3⟩
  case round =>
    obtain ⟨k, hk, rfl, HOK, HBR⟩ := hrel
    have HLK := Lib.hid (lsG_len x xs k)
    by_cases hlt : k < xs.length
    · obtain ⟨g, o, rfl, hS, hg, hO⟩ := HOK.out (by have := HLK.out; omega)
      obtain ⟨b, ob, rfl, hbl, hc⟩ := HO2.out.int (by have := HBL0.out; omega)
      have hv := (HBR.out.cell (p := ⟨b, ob + k, none⟩) hbl).trans (hc k (by have := HBL0.out; omega))
      rw [basTo_it x xs xs.length k hlt] at hv
      obtain ⟨d0, f0⟩ := hO.int k (by have := HLK.out; omega)
      have hsm := lsG_small HK.out k k hk hlt
      have hbi := basI_le HK.out hlt
      have HN := Lib.hid (hO.putInt k (it (lsG x xs k) k - basI x xs k) (by have := HLK.out; omega))
      have hge := hS.1
      have HS2 := Lib.hid hS
      clear hO hc hS
      go_wp2
      go_roundw
      case rel => exact ⟨k + 1, by omega, by go_num, Lib.hid (fun _ => ⟨g, o, rfl, HS2.out, by simpa [World.setCell] using hg, HN.out⟩), Lib.hid (HBR.out.setCell hge _)⟩
      case measure => simp [intOf]; omega
    · obtain rfl : k = xs.length := by omega
      have hz3 := HBR.out.size
      go_wp2
      go_returns
      rw [pB_yes HK.out, blF_yes HK.out, ← lsG_all, lsG_len]
      exact ⟨⟨R3, d3, rfl, fun hp => by
        obtain ⟨g, o, h1, h2, h3, h4⟩ := HOK.out hp
        exact ⟨g, o, h1, ⟨by omega, h3⟩, h3, h4⟩⟩, Below_next HB.out (Below_next HB2.out HBR.out)⟩
end Go.Proofs.YtnlcdfaojcnkpaaDoor

namespace Go.Proofs.YtnlcdfaojcnkpaaDoor
open Go.ChangeShapes Go.WideShapes Go.ChangeAt Go.RowKit Go.PlainAid
set_option linter.unusedVariables false

theorem fmTo_small {x : Cd} {xs : List Im} (h : BsOk x xs) : ∀ k : Nat, k ≤ xs.length → ∀ j, -(4 * (k : Int)) ≤ it (fmTo x xs k) j ∧ it (fmTo x xs k) j ≤ 7201 * (k : Int)
  | 0, _, j => by
    have : it (fmTo x xs 0) j = 0 := by
      unfold it fmTo
      rw [List.getD_eq_getElem?_getD, List.getElem?_replicate]
      split <;> rfl
    rw [this]
    omega
  | k + 1, hk, j => by
    have h1 := fmTo_small h k (by omega)
    have h2 := basI_le h (show k < xs.length by omega)
    rw [fmTo, addAt]
    by_cases hj : (famI x (nam0 xs k)).toNat < (fmTo x xs k).length
    · rw [it_set_int _ _ _ _ hj]
      have h3 := h1 j
      have h4 := h1 (famI x (nam0 xs k)).toNat
      split <;> omega
    · rw [List.set_eq_of_length_le (by omega)]
      have h3 := h1 j
      omega

end Go.Proofs.YtnlcdfaojcnkpaaDoor

namespace Go.Proofs.YtnlcdfaojcnkpaaDoor
open Go.ChangeShapes Go.WideShapes Go.ChangeAt Go.RowKit Go.PlainAid
set_option linter.unusedVariables false

set_option maxRecDepth 20000 in
set_option maxHeartbeats 4000000 in
theorem sMarkLosses_any (A L : Option Addr) (c d : Nat) (x : Cd) (P : Option Addr) (c1 : Nat) (xs : List Im) (w : World) (hr : CdAt w A L x) (hl : CdFits x) (hp : Ims w w.heap.size P xs) (hq : ImsFits xs) (hcp : xs.length ≤ c1 ∧ c1 ≤ 9223372036854775807) :
    Calls Tryd.prog 17 #[x.val A c L d, .slice P xs.length c1] w fun e w' => (∃ R d, e = .returned (.tuple #[.slice R (blF x xs).length d, .bool (pB (BsOk x xs))]) ∧ Owned (fun i => w.heap.size ≤ i ∧ i < w'.heap.size) w' R (blF x xs)) ∧ Below w.heap.size w w' := by
  have HCP := Lib.hid hcp
  clear hcp
  obtain ⟨W, hW, hB⟩ := boxed 31 w A c L d x
  have HB := Lib.hid hB.below
  have HX := Lib.hid hB.at_
  have HR := Lib.hid (hr.below hB.below)
  have HP := Lib.hid (hp.next hB.below)
  have HL := Lib.hid hl
  have HQ := Lib.hid hq
  clear hr hl hp hq hB
  unfold boxCd at hW
  unfold Cd.val
  go_enter Tryd.func17, Tryd.ntmps17
  obtain ⟨x0, x1, x2, x3, x4, x5⟩ := HX.out.box
  rw [hW] at x0 x1 x2 x3 x4 x5
  go_wp2_with fail
  rw [← hW]
  clear hW x0 x1 x2 x3 x4 x5
  refine (bsGood_any A L c d x P c1 xs W HR.out HL.out HP.out HQ.out).mono ?_
  rintro e w1 ⟨he, hb1⟩
  have HB1 := Lib.hid hb1
  clear hb1
  by_cases hok : BsOk x xs
  rotate_left
  · rw [pB_no hok] at he
    subst he
    have HK := Lib.hid hok
    clear hok
    go_wp2
    go_returns
    rw [pB_no HK.out, blF_no HK.out]
    exact ⟨⟨none, 0, rfl, Owned.nil _ _ _⟩, Below_next HB.out HB1.out⟩
  rw [pB_yes hok] at he
  subst he
  have HK := Lib.hid hok
  have h14 := hok.list.len
  clear hok
  obtain ⟨i0, hi, hz0, hz1, hz2⟩ := info_parts Tryd.infoIm
  have HZ := Lib.hid (And.intro hi (And.intro hz0 (And.intro hz1 hz2)))
  have hs01 := HB1.out.size
  have hs00 := HB.out.size
  clear hi hz0 hz1 hz2
  go_wp2_with fail
  go_loopw [6, 18] (fun v i wr => ∃ (k : Nat) (ys : List Im) (G : Nat → Nat), k ≤ xs.length ∧ i = .int .i64 k ∧ Hid (ys.length = k) ∧ Below w1.heap.size w1 wr ∧ Hid (wr.ownsRow w1.heap.size 76 3 v k (ys.flatMap Flat.cells)) ∧ Hid (ClnTo wr xs ys G k) ∧ Hid (Apart G w1.heap.size wr.heap.size (2 * k)) ∧ Hid (∀ i, i < 2 * k → v.ownBlock ≠ some (G i))) (fun _ i _ => xs.length - (intOf i).toNat)
  case atStart => exact ⟨0, [], fun _ => 0, Nat.zero_le _, rfl, Lib.hid rfl, Below.refl _ _, Lib.hid ⟨rfl, .inl ⟨rfl, rfl⟩⟩, Lib.hid (fun j hj => absurd hj (by omega)), Lib.hid ⟨fun i hi => absurd hi (by omega), fun i hi => absurd hi (by omega), fun i j h hi => absurd hi (by omega)⟩, Lib.hid (fun i hi => absurd hi (by omega))⟩
  case round =>
    obtain ⟨k, ys, G, hk, rfl, HY, hb, HO, HC, HAp, HNE⟩ := hrel
    have hbw := below_next HB1.out hb
    by_cases hlt : k < xs.length
    · obtain ⟨b, o, rfl, hbl, hc⟩ := HP.out.out.im (by omega)
      obtain ⟨c0, c1', c2⟩ := (hc k hlt).below hbw hbl
      have HE := Lib.hid ((HP.out.each k hlt).next hbw)
      have HI := Lib.hid (HK.out.list.each k hlt)
      have hn3 := (HK.out.list.each k hlt).hi
      have HBB := Lib.hid hb
      clear hc hb hbw
      go_wp2_with fail
      refine (itClean_any (it xs k) _ (HE.out.next (below_alloc _ _)) HI.out).mono ?_
      rintro e w2 ⟨g1, k1, g2, k2, rfl, ho1, ho2, l1, l2, lne, l3, l4, hb2⟩
      have hs1 : wr.heap.size < w2.heap.size := by
        have := hb2.size
        simp at this
        omega
      have HB2 := Lib.hid (below_next (below_alloc _ _) hb2)
      have hq : wr.heap.size ≤ g1 ∧ wr.heap.size ≤ g2 := by
        simp at l1 l2
        omega
      have HQQ := Lib.hid (And.intro hq (And.intro lne (And.intro l3 l4)))
      have HO1 := Lib.hid ho1
      have HO2 := Lib.hid ho2
      have HOW := Lib.hid (own_next HO.out HB2.out)
      have hb12 := HBB.out.size
      clear hb2 ho1 ho2 l1 l2 lne l3 l4 hq c0 c1' c2
      go_wp2_with (at_builtin; refine wpList_append_srcN _ rfl (.tmp 22) (.tmp 25) 43 rfl w1.heap.size 76 i0 (.agg #[.slice none 0 0, .slice none 0 0, .bool false]) 3 56 (by decide) Tryd.underlying43 HZ.out.1 HZ.out.2.1 HZ.out.2.2.1 HZ.out.2.2.2 rfl _ k (ys.flatMap Flat.cells) rfl (HOW.out.alloc _) (some ⟨w2.heap.size, 0, none⟩) 1 1 (Im.cs ⟨some ⟨g1, 0, none⟩, k1, some ⟨g2, 0, none⟩, k2, (it xs k).ns, zer (it xs k).ns.length, (it xs k).late⟩) rfl rfl (fun _ => ⟨_, rfl, im_news (by simp) (by simp [zer_len]) (by simp)⟩) (im_one1 _) (by unfold maxLen; omega) (by omega) (by simp; omega) ?_; intro v1 w4 hown hgrow hat)
      have hst := cln_step (y := ⟨some ⟨g1, 0, none⟩, k1, some ⟨g2, 0, none⟩, k2, (it xs k).ns, zer (it xs k).ns.length, (it xs k).late⟩) HY.out HO.out HC.out HAp.out HNE.out HBB.out HB2.out HQQ.out rfl ⟨rfl, rfl, rfl, rfl, rfl, HO1.out, HO2.out⟩ hgrow hat
      obtain ⟨hb4, hc4, ha4, hn4⟩ := hst
      have hy4 := HY.out
      have HOWN := Lib.hid (show w4.ownsRow w1.heap.size 76 3 v1 (k + 1) ((ys ++ [(⟨some ⟨g1, 0, none⟩, k1, some ⟨g2, 0, none⟩, k2, (it xs k).ns, zer (it xs k).ns.length, (it xs k).late⟩ : Im)]).flatMap Flat.cells) from by
        rw [List.flatMap_append, List.flatMap_cons, List.flatMap_nil, List.append_nil]
        exact hown)
      have HC4 := Lib.hid hc4
      have HA4 := Lib.hid ha4
      have HN4 := Lib.hid hn4
      have HY4 := Lib.hid (show (ys ++ [(⟨some ⟨g1, 0, none⟩, k1, some ⟨g2, 0, none⟩, k2, (it xs k).ns, zer (it xs k).ns.length, (it xs k).late⟩ : Im)]).length = k + 1 by simp [hy4])
      clear hown hgrow hat hc4 ha4 hn4 hy4
      go_roundw
      case rel => exact ⟨k + 1, _, _, by omega, by go_num, HY4, hb4, HOWN, HC4, HA4, HN4⟩
      case measure => simp [intOf]; omega
    · obtain rfl : k = xs.length := by omega
      have ho := HO.out
      rw [← HY.out] at ho
      obtain ⟨R, d0, g, rfl, h1, h2⟩ := own_form ys ho
      have HRM := Lib.hid (own_room ho)
      have hwr := hb.size
      have hcl := cln_own (S := fun i => w.heap.size ≤ i ∧ i < wr.heap.size) (R := R) (g := g) HK.out.list HY.out HC.out HAp.out h1 (fun i hi q => HNE.out i hi (by rw [q]; exact (h2 (by have := HY.out; omega)).2.2)) (fun hp => ⟨by have := (h2 hp).1; omega, (h2 hp).2.1⟩) (fun i q1 q2 => ⟨by omega, q2⟩)
      have hs := hcl.1
      rw [clnF_yes HK.out.list] at hs
      have HI := Lib.hid hcl.2.ims
      have HKY := Lib.hid ((bsOk_same hs).1 (bsOk_cln HK.out))
      have HYB := Lib.hid (show basTo x ys ys.length = lsG x xs 0 from by
        rw [HY.out, ← basTo_same hs xs.length (by rw [List.length_map]; exact Nat.le_refl _)]
        rfl)
      have HBW := Lib.hid hbw
      obtain ⟨x0, x1, x2, x3, x4, x5⟩ := (HX.out.next hbw).box
      clear hb hbw ho h1 h2 hcl hs
      go_wp2_with fail
      clear x0 x1 x2 x3 x4 x5
      refine (bsAll_any A L c d x R d0 ys _ (HR.out.below HBW.out) HI.out HKY.out HRM.out).mono ?_
      rintro e w3 ⟨⟨R3, d3, rfl, ho3⟩, hb3⟩
      rw [HYB.out] at ho3 ⊢
      rw [lsG_len]
      have HO3 := Lib.hid ho3
      have HB3 := Lib.hid (Below_next HBW.out hb3)
      clear ho3 hb3
      obtain ⟨x0, x1, x2, x3, x4, x5⟩ := (HX.out.next HB3.out).box
      go_wp2_with fail
      clear x0 x1 x2 x3 x4 x5
      refine (bsAll_any A L c d x P c1 xs w3 (HR.out.below HB3.out) (HP.out.next HB3.out) HK.out HCP.out).mono ?_
      rintro e w4 ⟨⟨R4, d4, rfl, ho4⟩, hb4⟩
      rw [basTo_len]
      have HBL0 := Lib.hid (basTo_len x xs xs.length)
      have HO4 := Lib.hid ho4
      have HO34 := Lib.hid (HO3.out.keepB hb4)
      have HB4 := Lib.hid (Below_next HB3.out hb4)
      have hsz3 := HB3.out.size
      have hsz4 := hb4.size
      clear ho4 hb4
      go_wp2_with fail
      go_loopw [35] (fun i ws => ∃ k : Nat, k ≤ xs.length ∧ i = .int .i64 k ∧ Hid (Owned (fun i => wr.heap.size ≤ i ∧ i < w3.heap.size) ws R3 (lsG x xs k)) ∧ Hid (Only (fun i => wr.heap.size ≤ i ∧ i < w3.heap.size) w4 ws)) (fun i _ => xs.length - (intOf i).toNat)
      case atStart => exact ⟨0, Nat.zero_le _, rfl, HO34, Lib.hid (Only.refl _ _)⟩
      case round =>
        obtain ⟨k, hk, rfl, HOK, HON⟩ := hrel
        have HLK := Lib.hid (lsG_len x xs k)
        by_cases hlt : k < xs.length
        · obtain ⟨g, o, rfl, hS, hg, hO⟩ := HOK.out (by have := HLK.out; omega)
          obtain ⟨b, ob, rfl, hSb, hbl, hOb⟩ := HO4.out (by have := HBL0.out; omega)
          have hv0 := (hOb.int k (by have := HBL0.out; omega)).1
          rw [basTo_it x xs xs.length k hlt] at hv0
          have hv := (World.cell?_of_block (a := ⟨b, ob + k, none⟩) (HON.out.block b hbl (fun e => by omega))).trans hv0
          obtain ⟨d0', f0⟩ := hO.int k (by have := HLK.out; omega)
          have hsm := lsG_small HK.out k k hk hlt
          have hbi := basI_le HK.out hlt
          have HN := Lib.hid (hO.putInt k (it (lsG x xs k) k - basI x xs k) (by have := HLK.out; omega))
          have HS2 := Lib.hid hS
          clear hO hS hOb hSb hv0
          go_wp2
          go_roundw
          case rel => exact ⟨k + 1, by omega, by go_num, Lib.hid (fun _ => ⟨g, o, rfl, HS2.out, by simpa [World.setCell] using hg, HN.out⟩), Lib.hid (HON.out.setCell HS2.out _)⟩
          case measure => simp [intOf]; omega
        · obtain rfl : k = xs.length := by omega
          have hz3 := HON.out.size
          have HBF := Lib.hid (HB4.out.trans (HON.out.below HB4.out.size (fun i e => by have := HBW.out.size; omega)))
          go_wp2
          go_returns
          rw [pB_yes HK.out, blF_yes HK.out, ← lsG_all, lsG_len]
          exact ⟨⟨R3, d3, rfl, fun hp => by
            obtain ⟨g, o, h1, h2, h3, h4⟩ := HOK.out hp
            exact ⟨g, o, h1, ⟨by omega, h3⟩, h3, h4⟩⟩, Below_next HB.out HBF.out⟩

end Go.Proofs.YtnlcdfaojcnkpaaDoor
