/- A copy of a list of items, in the program. -/
import Derived.Test.YtfcffbbafcpcgaaPgN
import Derived.Test.YtfcffbbafcpcgaaShelf
import Derived.Deep.RegionHeld3
namespace Go.Proofs.Ytfcffbbafcpcgaa
open Go.ChangeShapes Go.WideShapes Go.ChangeAt Go.RowKit Go.PlainAid
set_option linter.unusedVariables false

theorem cloneS_any (A : Option Addr) (c : Nat) (l : List ByteArray) (w : World) (hr : Lst w w.heap.size A l) (hl : l.length ≤ 1048576) (hp : 0 < l.length) :
    Calls Try.prog 34 #[.slice A l.length c] w fun e w' => ∃ g cap, e = .returned (.slice (some ⟨g, 0, none⟩) l.length cap) ∧ OwnAt w' g 0 l ∧ w.heap.size ≤ g ∧ g < w'.heap.size ∧ Below w.heap.size w w' := by
  obtain ⟨b, o, rfl, hbl, hc⟩ := hr.str hp
  obtain ⟨i0, hi, hz0, hz1, hz2⟩ := info_parts Try.infoStr
  refine (Try.slices_Clone_f34 i0 (.string ⟨#[]⟩) 1 16 hi hz0 hz1 hz2 rfl (by decide) Try.sizeOf9 b o l.length c (l.map Value.string) w (by simp) (by unfold maxLen; omega) (by omega) (fun j u hj => ?_) (str_one l)).mono ?_
  · have hj' : j < l.length := by
      have := (List.getElem?_eq_some_iff.1 hj).1
      simpa using this
    rw [List.getElem?_map, it_get l j hj'] at hj
    have hu : Value.string (it l j) = u := by simpa using hj
    rw [← hu]
    exact hc j hj'
  · rintro e w' ⟨v', rfl, hown, _, hb⟩
    obtain ⟨g, cap, rfl, h1, h2⟩ := row_pos hown hp
    exact ⟨g, cap, rfl, own_of_row (α := ByteArray) (cap := cap) (e := 9) (base := w.heap.size) l (by rw [flatMap_str]; exact hown), h1, h2, hb⟩
theorem cloneI_any (A : Option Addr) (c : Nat) (l : List Int) (w : World) (hr : Lst w w.heap.size A l) (hl : l.length ≤ 1048576) (hp : 0 < l.length) :
    Calls Try.prog 35 #[.slice A l.length c] w fun e w' => ∃ g cap, e = .returned (.slice (some ⟨g, 0, none⟩) l.length cap) ∧ OwnAt w' g 0 l ∧ w.heap.size ≤ g ∧ g < w'.heap.size ∧ Below w.heap.size w w' := by
  obtain ⟨b, o, rfl, hbl, hc⟩ := hr.int hp
  obtain ⟨i0, hi, hz0, hz1, hz2⟩ := info_parts Try.infoInt
  refine (Try.slices_Clone_f35 i0 (.int .i64 0) 1 8 hi hz0 hz1 hz2 rfl (by decide) Try.sizeOf3 b o l.length c (l.map (Value.int .i64)) w (by simp) (by unfold maxLen; omega) (by omega) (fun j u hj => ?_) (int_one l)).mono ?_
  · have hj' : j < l.length := by
      have := (List.getElem?_eq_some_iff.1 hj).1
      simpa using this
    rw [List.getElem?_map, it_get l j hj'] at hj
    have hu : Value.int .i64 (it l j) = u := by simpa using hj
    rw [← hu]
    exact hc j hj'
  · rintro e w' ⟨v', rfl, hown, _, hb⟩
    obtain ⟨g, cap, rfl, h1, h2⟩ := row_pos hown hp
    exact ⟨g, cap, rfl, own_of_row (α := Int) (cap := cap) (e := 3) (base := w.heap.size) l (by rw [flatMap_int]; exact hown), h1, h2, hb⟩
theorem ImBox.threeAt {w : World} {b : Nat} {x : Im} (h : ImBox w b x) (b' o : Nat) (hne : b ≠ b') (u0 u1 u2 : Value) : ImBox (((w.setCell ⟨b', o, none⟩ u0).setCell ⟨b', o + 1, none⟩ u1).setCell ⟨b', o + 2, none⟩ u2) b x := by
  have hk : Only (fun i => i = b') w (((w.setCell ⟨b', o, none⟩ u0).setCell ⟨b', o + 1, none⟩ u1).setCell ⟨b', o + 2, none⟩ u2) :=
    Only.put (S := fun i => i = b') (Only.put (S := fun i => i = b') (Only.put (S := fun i => i = b') (Only.refl _ w) b' _ rfl _) b' _ rfl _) b' _ rfl _
  have hb := hk.block b h.lt (fun e => hne e)
  exact ⟨Nat.lt_of_lt_of_le h.lt hk.size, (World.cell?_of_block (a := ⟨b, 0, none⟩) hb).trans h.c0, (World.cell?_of_block (a := ⟨b, 1, none⟩) hb).trans h.c1, (World.cell?_of_block (a := ⟨b, 2, none⟩) hb).trans h.c2⟩

set_option maxRecDepth 20000 in
set_option maxHeartbeats 4000000 in
theorem copyOfItems_any (P : Option Addr) (c : Nat) (xs : List Im) (w : World) (hr : Ims w w.heap.size P xs) (hok : ListOk xs) :
    Calls Try.prog 19 #[.slice P xs.length c] w fun e w' => (∃ R d ys g G, e = .returned (.slice R ys.length d) ∧ SameS xs ys ∧ ImsOwn (fun i => w.heap.size ≤ i ∧ i < w'.heap.size) w' R g G ys) ∧ Below w.heap.size w w' := by
  have HR := Lib.hid hr
  obtain ⟨i0, hi, hz0, hz1, hz2⟩ := info_parts Try.infoIm
  have HZ := Lib.hid (made_flat (α := Im) #[.slice none 0 0, .slice none 0 0, .bool false] default xs.length rfl (by decide))
  have HK := Lib.hid hok
  have h14 := hok.len
  clear hr hok
  go_enter Try.func19, Try.ntmps19
  go_wp2_with (at_make; refine wpList_make_full _ rfl (.tmp 7) (.tmp 7) 24 rfl w.heap.size 37 i0 (.agg #[.slice none 0 0, .slice none 0 0, .bool false]) 3 Try.underlying24 hi hz0 hz1 .i64 .i64 _ _ xs.length rfl rfl rfl rfl (by rw [hz2]; omega) (by unfold maxLen; omega) (Nat.le_refl _) ?_; intro w2 hown hgrow)
  have HW := Lib.hid (show OwnAt w2 w.heap.size 0 (List.replicate xs.length (default : Im)) from own_of_row (α := Im) (cap := xs.length) (e := 37) (base := w.heap.size) _ (by rw [← HZ.out, List.length_replicate]; exact hown))
  have hb2 : Below w.heap.size w w2 := (Below.refl _ _).grown hgrow (Nat.le_refl _) (fun k e => by cases e)
  have hs2 := (hown.lt w.heap.size rfl).2
  have HB2 := Lib.hid hb2
  clear hown hgrow hb2 hi hz0 hz1 hz2
  go_loopw [11] (fun i wr => ∃ (k : Nat) (ys : List Im) (G : Nat → Nat), k ≤ xs.length ∧ i = .int .i64 k ∧ Hid (ys.length = xs.length) ∧ Hid (CpTo wr (xs) ys G k) ∧ Hid (OwnAt wr w.heap.size 0 ys) ∧ Hid (Apart G (w.heap.size + 1) wr.heap.size (2 * k)) ∧ w.heap.size < wr.heap.size ∧ Below w.heap.size w wr) (fun i _ => xs.length - (intOf i).toNat)
  case atStart => exact ⟨0, _, fun _ => 0, Nat.zero_le _, rfl, Lib.hid (by rw [List.length_replicate]), Lib.hid (CpTo.zero _ _ _ _), HW, Lib.hid ⟨fun i hi => absurd hi (by omega), fun i hi => absurd hi (by omega), fun i j h hi => absurd hi (by omega)⟩, hs2, HB2.out⟩
  case round =>
    obtain ⟨k, ys, G, hk, rfl, HY, HC, HO, HAp, hsr, hb⟩ := hrel
    have hbw := hb
    by_cases hlt : k < xs.length
    · obtain ⟨b, o, rfl, hbl, hc⟩ := HR.out.out.im (by omega)
      obtain ⟨c0, c1, c2⟩ := (hc k hlt).below hbw hbl
      have HE := Lib.hid ((HR.out.each k hlt).next hbw)
      have hn3 := (HK.out.each k hlt).hi
      have hn1 := (HK.out.each k hlt).lo
      have HEQ := Lib.hid (HK.out.each k hlt).eq
      have hm3 : (it xs k).ms.length ≤ 3 := by have := HEQ.out; omega
      have hm1 : 0 < (it xs k).ms.length := by have := HEQ.out; omega
      have HB := Lib.hid hb
      clear hc hb hbw
      go_wp2_with fail
      generalize hW : World.alloc wr _ = W
      have hXW : ImBox W wr.heap.size (it xs k) := by
        rw [← hW]
        exact imBox_new wr _ _
      have hbW : Below wr.heap.size wr W := by
        rw [← hW]
        exact below_alloc _ _
      have hSW : W.heap.size = wr.heap.size + 1 := by rw [← hW]; simp
      have hbd : Below wr.heap.size wr W.drew := below_next hbW (below_drew W)
      have HXd := Lib.hid (hXW.next (below_drew W))
      have HRd := Lib.hid (HE.out.next hbd)
      have HBd := Lib.hid hbd
      have HSd : Hid (W.drew.heap.size = wr.heap.size + 1) := Lib.hid hSW
      clear hW hXW hbW hSW hbd c0 c1 c2
      have q1 : (0 : Int) ≤ (k : Int) := by omega
      have q2 : (k : Int) < (xs.length : Int) := by omega
      have hkl : k < ys.length := by have := HY.out; omega
      have hneb : wr.heap.size ≠ w.heap.size := by omega
      go_region_held3 (fun w' => w'.cell? ⟨wr.heap.size, 0, none⟩ = some (.slice (it xs k).A (it xs k).ns.length (it xs k).c) ∧ w'.cell? ⟨wr.heap.size, 1, none⟩ = some (.slice (it xs k).L (it xs k).ms.length (it xs k).d) ∧ w'.cell? ⟨wr.heap.size, 2, none⟩ = some (.bool (it xs k).late))
        (first | (with_reducible exact ⟨HX2.out.c0, HX2.out.c1, HX2.out.c2⟩) | (with_reducible exact ⟨HXa.out.c0, HXa.out.c1, HXa.out.c2⟩) | (with_reducible exact ⟨HXc.out.c0, HXc.out.c1, HXc.out.c2⟩) | (with_reducible exact ⟨HXd.out.c0, HXd.out.c1, HXd.out.c2⟩) | (with_reducible exact ⟨(HX2.out.threeAt w.heap.size (k * 3) hneb _ _ _).c0, (HX2.out.threeAt w.heap.size (k * 3) hneb _ _ _).c1, (HX2.out.threeAt w.heap.size (k * 3) hneb _ _ _).c2⟩))
        (first
          | (go_at_call 34; refine (cloneS_any (it xs k).A (it xs k).c (it xs k).ns _ HRd.out.ns (by omega) hn1).mono ?_; rintro e wa ⟨g1, d1, rfl, ho, h1, h2, hb⟩; have HXa := Lib.hid (HXd.out.next hb); have HBa := Lib.hid (below_next HBd.out hb); have HRa := Lib.hid (HRd.out.next hb); have HEa := Lib.hid ho; have HQa := Lib.hid (show wr.heap.size + 1 ≤ g1 ∧ g1 < wa.heap.size ∧ wr.heap.size + 1 ≤ wa.heap.size from by have := HSd.out; have := hb.size; omega); clear ho h1 h2 hb)
          | (go_at_call 35; refine (cloneI_any (it xs k).L (it xs k).d (it xs k).ms _ HRa.out.ms (by omega) hm1).mono ?_; rintro e w3 ⟨g2, d2, rfl, ho, h1, h2, hb⟩; have HX2 := Lib.hid (HXa.out.next hb); have HB3 := Lib.hid (below_next HBa.out hb); have HE2 := Lib.hid (HEa.out.block (hb.block _ HQa.out.2.1)); have HF2 := Lib.hid ho; have HQ2 := Lib.hid (show wr.heap.size + 1 ≤ g1 ∧ wr.heap.size + 1 ≤ g2 ∧ g1 ≠ g2 ∧ g1 < w3.heap.size ∧ g2 < w3.heap.size from by have := HQa.out; have := hb.size; omega); have HO3 := Lib.hid (HO.out.block (HB3.out.block _ hsr)); obtain ⟨⟨m0, m1, m2⟩, f0, f1, f2⟩ := HO3.out.im0 k hkl; clear ho h1 h2 hb)
          | (go_at_call 35; refine (cloneI_any (it xs k).L (it xs k).d (it xs k).ms _ HRd.out.ms (by omega) hm1).mono ?_; rintro e wc ⟨g2, d2, rfl, ho, h1, h2, hb⟩; have HXc := Lib.hid (HXd.out.next hb); have HBc := Lib.hid (below_next HBd.out hb); have HRc := Lib.hid (HRd.out.next hb); have HFc := Lib.hid ho; have HQc := Lib.hid (show wr.heap.size + 1 ≤ g2 ∧ g2 < wc.heap.size ∧ wr.heap.size + 1 ≤ wc.heap.size from by have := HSd.out; have := hb.size; omega); clear ho h1 h2 hb)
          | (go_at_call 34; refine (cloneS_any (it xs k).A (it xs k).c (it xs k).ns _ HRc.out.ns (by omega) hn1).mono ?_; rintro e w3 ⟨g1, d1, rfl, ho, h1, h2, hb⟩; have HX2 := Lib.hid (HXc.out.next hb); have HB3 := Lib.hid (below_next HBc.out hb); have HF2 := Lib.hid (HFc.out.block (hb.block _ HQc.out.2.1)); have HE2 := Lib.hid ho; have HQ2 := Lib.hid (show wr.heap.size + 1 ≤ g1 ∧ wr.heap.size + 1 ≤ g2 ∧ g1 ≠ g2 ∧ g1 < w3.heap.size ∧ g2 < w3.heap.size from by have := HQc.out; have := hb.size; omega); have HO3 := Lib.hid (HO.out.block (HB3.out.block _ hsr)); obtain ⟨⟨m0, m1, m2⟩, f0, f1, f2⟩ := HO3.out.im0 k hkl; clear ho h1 h2 hb)
          | fail)
      all_goals
        have hst := cp_set (w1 := w) (wr := wr) (w3 := w3) (xs := xs) (ys := ys) (G := G) (k := k) (g1 := g1) (g2 := g2) (y := ⟨some ⟨g1, 0, none⟩, d1, some ⟨g2, 0, none⟩, d2, (it xs k).ns, (it xs k).ms, (it xs k).late⟩) HC.out HO3.out HAp.out hsr HB3.out HB.out hkl HQ2.out (by exact ⟨rfl, rfl, rfl, rfl, rfl, HE2.out, HF2.out⟩)
        have hpc : Flat.cells (⟨some ⟨g1, 0, none⟩, d1, some ⟨g2, 0, none⟩, d2, (it xs k).ns, (it xs k).ms, (it xs k).late⟩ : Im) = [.slice (some ⟨g1, 0, none⟩) (it xs k).ns.length d1, .slice (some ⟨g2, 0, none⟩) (it xs k).ms.length d2, .bool ((it xs k).late)] := rfl
        rw [hpc] at hst
        obtain ⟨hc4, ho4, ha4, hs4, hb4⟩ := hst
        have HC4 := Lib.hid hc4
        have HO4 := Lib.hid ho4
        have HA4 := Lib.hid ha4
        have HY4 := Lib.hid (show (ys.set k (⟨some ⟨g1, 0, none⟩, d1, some ⟨g2, 0, none⟩, d2, (it xs k).ns, (it xs k).ms, (it xs k).late⟩ : Im)).length = xs.length by rw [List.length_set]; exact HY.out)
        clear hc4 ho4 ha4 hpc
        go_wp2
        go_roundw
        case rel => exact ⟨k + 1, _, _, by omega, by go_num, HY4, HC4, HO4, HA4, hs4, hb4⟩
        case measure => simp [intOf]; omega
    · obtain rfl : k = xs.length := by omega
      have hcl := cp_own (S := fun i => w.heap.size ≤ i ∧ i < wr.heap.size) (R := some ⟨w.heap.size, 0, none⟩) (g := w.heap.size) (xs := xs) (ys := ys) HY.out HC.out HAp.out (fun _ => ⟨_, 0, rfl, rfl, hsr, HO.out⟩) (fun i hi q => by have := HAp.out.lo i hi; omega) (fun _ => ⟨Nat.le_refl _, hsr⟩) (fun i q1 q2 => ⟨by omega, q2⟩)
      have HCL := Lib.hid hcl
      have HBW := Lib.hid hbw
      have hy := HY.out
      clear hb hbw hcl
      go_wp2
      go_ret
      exact ⟨⟨some ⟨w.heap.size, 0, none⟩, xs.length, ys, w.heap.size, G, by rw [hy]; rfl, HCL.out.1, HCL.out.2⟩, HBW.out⟩
theorem markItemS_m (S : Nat → Prop) (P : Option Addr) (c n : Nat) (g : Nat) (G : Nat → Nat) (xs : List Im) (m : Int) (k : Nat) (w : World) (hm : m = (k : Int)) (hn : xs.length = n) (hr : ImsOwn S w P g G xs) (hl : ImsFits xs) (hk : 0 < k) (hk2 : k ≤ 1000000000000) :
    Calls Try.prog 10 #[.slice P n c, .int .i64 m] w fun e w' => e = .returned (.int .i64 ((kAt xs k xs.length : Nat) : Int)) ∧ (∃ ys, Marked xs k xs.length ys ∧ ImsOwn S w' P g G ys) ∧ Only S w w' := by
  subst hm hn
  exact markItemS_any S P c g G xs k w hr hl hk (by omega)
theorem heldItemS_m (P : Option Addr) (c n : Nat) (xs ys : List Im) (m : Int) (k : Nat) (w : World) (hm : m = (k : Int)) (hn : xs.length = n) (hmk : Marked xs k xs.length ys) (hr : Ims w w.heap.size P ys) (hl : ImsFits xs) (hk : 0 < k) (hk2 : k ≤ 1000000000000) :
    Calls Try.prog 11 #[.slice P n c, .int .i64 m] w fun e w' => e = .returned (.int .i64 ((kAt xs k xs.length : Nat) : Int)) ∧ Below w.heap.size w w' := by
  subst hm hn
  exact heldItemS_any P c xs ys k w hmk hr hl hk (by omega)
end Go.Proofs.Ytfcffbbafcpcgaa
