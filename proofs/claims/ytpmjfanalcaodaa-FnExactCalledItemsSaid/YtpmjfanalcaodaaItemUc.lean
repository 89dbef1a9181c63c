/- CleanItems in the program, where the shelf has slices.Clone at strings by its own name. -/
import Derived.Test.YtpmjfanalcaodaaItemP
import Derived.Test.YtpmjfanalcaodaaShelf
namespace Go.Proofs.Ytpmjfanalcaodaa
open Go.ChangeShapes Go.WideShapes Go.ChangeAt Go.RowKit Go.PlainAid
set_option linter.unusedVariables false

theorem ClnTo.set {w : World} {xs ys : List Im} {G : Nat → Nat} {k g1 g2 : Nat} {y : Im} (h : ClnTo w xs ys G k) (hk : k < ys.length) (hy : ClnAt w (it xs k) y g1 g2) : ClnTo w xs (ys.set k y) (grow2 G k g1 g2) (k + 1) := fun j hj => by
  rw [it_set _ _ _ _ hk]
  by_cases e : j = k
  · subst e
    rw [if_pos rfl, grow2_0, grow2_1]
    exact hy
  · rw [if_neg e, grow2_lt (by omega), grow2_lt (by omega)]
    exact h j (by omega)
/-- One item stored: what is known then. -/
theorem cln_set {w1 wr w3 : World} {xs ys : List Im} {G : Nat → Nat} {k g1 g2 : Nat} {y : Im}
    (hC : ClnTo wr xs ys G k) (hO : OwnAt w3 w1.heap.size 0 ys) (hA : Apart G (w1.heap.size + 1) wr.heap.size (2 * k)) (hs : w1.heap.size < wr.heap.size) (hb3 : Below wr.heap.size wr w3) (hB : Below w1.heap.size w1 wr) (hk : k < ys.length)
    (hq : wr.heap.size + 1 ≤ g1 ∧ wr.heap.size + 1 ≤ g2 ∧ g1 ≠ g2 ∧ g1 < w3.heap.size ∧ g2 < w3.heap.size) (hy : ClnAt w3 (it xs k) y g1 g2) :
    ClnTo (putAt w1.heap.size (k * 3) w3 0 (Flat.cells y)) xs (ys.set k y) (grow2 G k g1 g2) (k + 1) ∧ OwnAt (putAt w1.heap.size (k * 3) w3 0 (Flat.cells y)) w1.heap.size 0 (ys.set k y) ∧ Apart (grow2 G k g1 g2) (w1.heap.size + 1) (putAt w1.heap.size (k * 3) w3 0 (Flat.cells y)).heap.size (2 * (k + 1)) ∧ w1.heap.size < (putAt w1.heap.size (k * 3) w3 0 (Flat.cells y)).heap.size ∧ Below w1.heap.size w1 (putAt w1.heap.size (k * 3) w3 0 (Flat.cells y)) := by
  obtain ⟨l1, l2, lne, l3, l4⟩ := hq
  have hsz := putAt_size w1.heap.size (k * 3) (Flat.cells y) w3 0
  have hk3 := putAt_only (S := fun i => i = w1.heap.size) rfl (k * 3) (Flat.cells y) w3 w3 0 (Only.refl _ _)
  have hbs := hb3.size
  have k4 : ∀ i, i < 2 * k → (putAt w1.heap.size (k * 3) w3 0 (Flat.cells y)).heap[G i]? = wr.heap[G i]? := fun i hi => by
    have h1 := hA.hi i hi
    have h2 := hA.lo i hi
    rw [hk3.block _ (by omega) (by omega)]
    exact hb3.block _ h1
  have hp := hO.put k y hk
  rw [show 0 + k * Flat.sz Im = k * 3 from Nat.zero_add _] at hp
  refine ⟨(hC.keep k4).set hk (hy.keep (hk3.block _ l3 (by omega)) (hk3.block _ l4 (by omega))), hp, hA.grow' (by omega) (by omega) (by omega) lne (by omega) (by omega), by omega, ?_⟩
  exact (below_next hB hb3).trans (hk3.below (by omega) (fun i e => Nat.le_of_eq e.symm))
theorem ImBox.threeAt {w : World} {b : Nat} {x : Im} (h : ImBox w b x) (b' o : Nat) (hne : b ≠ b') (u0 u1 u2 : Value) : ImBox (((w.setCell ⟨b', o, none⟩ u0).setCell ⟨b', o + 1, none⟩ u1).setCell ⟨b', o + 2, none⟩ u2) b x := by
  have hk : Only (fun i => i = b') w (((w.setCell ⟨b', o, none⟩ u0).setCell ⟨b', o + 1, none⟩ u1).setCell ⟨b', o + 2, none⟩ u2) :=
    Only.put (S := fun i => i = b') (Only.put (S := fun i => i = b') (Only.put (S := fun i => i = b') (Only.refl _ w) b' _ rfl _) b' _ rfl _) b' _ rfl _
  have hb := hk.block b h.lt (fun e => hne e)
  exact ⟨Nat.lt_of_lt_of_le h.lt hk.size, (World.cell?_of_block (a := ⟨b, 0, none⟩) hb).trans h.c0, (World.cell?_of_block (a := ⟨b, 1, none⟩) hb).trans h.c1, (World.cell?_of_block (a := ⟨b, 2, none⟩) hb).trans h.c2⟩
theorem clone_any (A : Option Addr) (c : Nat) (l : List ByteArray) (w : World) (hr : Lst w w.heap.size A l) (hl : l.length ≤ 1048576) (hp : 0 < l.length) :
    Calls Try.prog 112 #[.slice A l.length c] w fun e w' => ∃ g cap, e = .returned (.slice (some ⟨g, 0, none⟩) l.length cap) ∧ OwnAt w' g 0 l ∧ w.heap.size ≤ g ∧ g < w'.heap.size ∧ Below w.heap.size w w' := by
  obtain ⟨b, o, rfl, hbl, hc⟩ := hr.str hp
  refine (Try.slices_Clone_string b o l.length c l w (Nat.le_refl _) (by omega) (fun j hj => ?_)).mono ?_
  · rw [List.getD_eq_getElem?_getD, it_get l j hj]
    exact hc j hj
  · rintro e w' ⟨v', rfl, hown, _, hb⟩
    rw [List.take_length] at hown
    obtain ⟨g, cap, rfl, h1, h2⟩ := row_pos hown hp
    exact ⟨g, cap, rfl, own_of_row (α := ByteArray) (cap := cap) (e := 9) (base := w.heap.size) l (by rw [flatMap_str]; exact hown), h1, h2, hb⟩

set_option maxRecDepth 20000 in
set_option maxHeartbeats 2000000 in
theorem iCleanItems_any (P : Option Addr) (c : Nat) (xs : List Im) (w : World) (hr : Ims w w.heap.size P xs) (hl : ImsFits xs) :
    Calls Try.prog 65 #[.slice P xs.length c] w fun e w' => (∃ R d ys g G, e = .returned (.tuple #[.slice R ys.length d, .bool (pB (ListOk xs))]) ∧ SameS (clnF xs) ys ∧ ImsOwn (fun i => w.heap.size ≤ i ∧ i < w'.heap.size) w' R g G ys) ∧ Below w.heap.size w w' := by
  have HA := Lib.hid (iAreItems_any P c xs w hr hl)
  have HR := Lib.hid hr
  clear hr hl
  by_cases hok : ListOk xs
  · rw [pB_yes hok] at HA ⊢
    obtain ⟨i0, hi, hz0, hz1, hz2⟩ := info_parts Try.infoIm
    obtain ⟨i1, hi1, hy0, hy1, hy2⟩ := info_parts Try.infoInt
    have HZ := Lib.hid (made_flat (α := Im) #[.slice none 0 0, .slice none 0 0, .bool false] default xs.length rfl (by decide))
    have HZI := Lib.hid (fun n => made_flat (α := Int) #[.int .i64 0] 0 n rfl (by decide))
    have HK := Lib.hid hok
    have h14 := hok.len
    clear hok
    go_enter Try.func65, Try.ntmps65
    go_wp2_with fail
    refine HA.out.mono ?_
    rintro e w1 ⟨rfl, hb1⟩
    have HB1 := Lib.hid hb1
    have hs01 := hb1.size
    clear hb1 HA
    go_wp2_with (at_make; refine wpList_make_full _ rfl (.tmp 11) (.tmp 11) 29 rfl w1.heap.size 85 i0 (.agg #[.slice none 0 0, .slice none 0 0, .bool false]) 3 Try.underlying29 hi hz0 hz1 .i64 .i64 _ _ xs.length rfl rfl rfl rfl (by rw [hz2]; omega) (by unfold maxLen; omega) (Nat.le_refl _) ?_; intro w2 hown hgrow)
    have HW := Lib.hid (show OwnAt w2 w1.heap.size 0 (List.replicate xs.length (default : Im)) from own_of_row (α := Im) (cap := xs.length) (e := 85) (base := w1.heap.size) _ (by rw [← HZ.out, List.length_replicate]; exact hown))
    have hb2 : Below w1.heap.size w1 w2 := (Below.refl _ _).grown hgrow (Nat.le_refl _) (fun k e => by cases e)
    have hs2 := (hown.lt w1.heap.size rfl).2
    have HB2 := Lib.hid hb2
    clear hown hgrow hb2 hi hz0 hz1 hz2
    go_loopw [15] (fun i wr => ∃ (k : Nat) (ys : List Im) (G : Nat → Nat), k ≤ xs.length ∧ i = .int .i64 k ∧ Hid (ys.length = xs.length) ∧ Hid (ClnTo wr xs ys G k) ∧ Hid (OwnAt wr w1.heap.size 0 ys) ∧ Hid (Apart G (w1.heap.size + 1) wr.heap.size (2 * k)) ∧ w1.heap.size < wr.heap.size ∧ Below w1.heap.size w1 wr) (fun i _ => xs.length - (intOf i).toNat)
    case atStart => exact ⟨0, _, fun _ => 0, Nat.zero_le _, rfl, Lib.hid (by rw [List.length_replicate]), Lib.hid (fun j hj => absurd hj (by omega)), HW, Lib.hid ⟨fun i hi => absurd hi (by omega), fun i hi => absurd hi (by omega), fun i j h hi => absurd hi (by omega)⟩, hs2, HB2.out⟩
    case round =>
      obtain ⟨k, ys, G, hk, rfl, HY, HC, HO, HAp, hsr, hb⟩ := hrel
      have hbw := below_next HB1.out hb
      by_cases hlt : k < xs.length
      · obtain ⟨b, o, rfl, hbl, hc⟩ := HR.out.out.im (by omega)
        obtain ⟨c0, c1, c2⟩ := (hc k hlt).below hbw hbl
        have HE := Lib.hid ((HR.out.each k hlt).next hbw)
        have HI := Lib.hid (HK.out.each k hlt)
        have hn3 := (HK.out.each k hlt).hi
        have hn1 := (HK.out.each k hlt).lo
        have HEQ := Lib.hid (HK.out.each k hlt).eq
        have hm3 : (it xs k).ms.length ≤ 3 := by have := HEQ.out; omega
        have HB := Lib.hid hb
        clear hc hb hbw
        go_wp2_with fail
        generalize hW : World.alloc wr _ = W
        have hXW : ImBox W wr.heap.size (it xs k) := by
          rw [← hW]
          exact imBox_new wr _ _
        have hbW : Below wr.heap.size wr W := by
          rw [← hW]
          exact below_alloc _ _
        have hSW : W.heap.size = wr.heap.size + 1 := by rw [← hW]; simp
        have hbd : Below wr.heap.size wr W.drew := below_next hbW (below_drew W)
        have HXd := Lib.hid (hXW.next (below_drew W))
        have HRd := Lib.hid (HE.out.next hbd)
        have HBd := Lib.hid hbd
        have HSd : Hid (W.drew.heap.size = wr.heap.size + 1) := Lib.hid hSW
        clear hW hXW hbW hSW hbd c0 c1 c2
        (obtain ⟨wm, hrunm, hown, hgrow⟩ := run_make_full (P := Try.prog) W.drew wr.heap.size 62 3 i1 (.int .i64 0) 1 Try.underlying62 hi1 hy0 hy1 .i64 .i64 (it xs k).ms.length (by rw [hy2]; omega) (by unfold maxLen; omega) (HBd.out.size); have hf := own_of_row (α := Int) (cap := (it xs k).ms.length) (e := 3) (base := wr.heap.size) (zer (it xs k).ms.length) (by unfold zer; rw [← (HZI.out _), List.length_replicate]; exact hown); have hb := (Below.refl _ _).grown hgrow (Nat.le_refl _) (fun k e => by cases e); have hlt' : W.drew.heap.size < wm.heap.size := (hown.lt _ rfl).2; have HXm := Lib.hid (HXd.out.next hb); have HBm := Lib.hid (below_next HBd.out hb); have HRm := Lib.hid (HRd.out.next hb); have HFm := Lib.hid hf; have HSm := Lib.hid (show wr.heap.size + 1 ≤ W.drew.heap.size ∧ W.drew.heap.size < wm.heap.size from by have := HSd.out; omega); clear hown hgrow hf hb hlt')
        have q1 : (0 : Int) ≤ (k : Int) := by omega
        have q2 : (k : Int) < (xs.length : Int) := by omega
        have hkl : k < ys.length := by have := HY.out; omega
        have hneb : wr.heap.size ≠ w1.heap.size := by omega
        go_region_held3 (fun w' => w'.cell? ⟨wr.heap.size, 0, none⟩ = some (.slice (it xs k).A (it xs k).ns.length (it xs k).c) ∧ w'.cell? ⟨wr.heap.size, 1, none⟩ = some (.slice (it xs k).L (it xs k).ms.length (it xs k).d) ∧ w'.cell? ⟨wr.heap.size, 2, none⟩ = some (.bool (it xs k).late))
          (first | (with_reducible exact imCells HX2.out) | (with_reducible exact imCells HXc.out) | (with_reducible exact imCells HXm.out) | (with_reducible exact imCells HXd.out) | (with_reducible exact imCells (HX2.out.threeAt w1.heap.size (k * 3) hneb _ _ _)))
          (first
            | (go_at_call 112; refine (clone_any (it xs k).A (it xs k).c (it xs k).ns _ HRm.out.ns (by omega) hn1).mono ?_; rintro e w3 ⟨g1, d1, rfl, ho, h1, h2, hb⟩; have HX2 := Lib.hid (HXm.out.next hb); have HB3 := Lib.hid (below_next HBm.out hb); have HO3 := Lib.hid (HO.out.block (HB3.out.block _ hsr)); have HE2 := Lib.hid ho; have HF2 := Lib.hid (HFm.out.block (hb.block _ HSm.out.2)); have HQ2 := Lib.hid (show wr.heap.size + 1 ≤ g1 ∧ wr.heap.size + 1 ≤ W.drew.heap.size ∧ g1 ≠ W.drew.heap.size ∧ g1 < w3.heap.size ∧ W.drew.heap.size < w3.heap.size from by have := HSm.out; have := HSd.out; have := hb.size; omega); obtain ⟨⟨m0, m1, m2⟩, f0, f1, f2⟩ := HO3.out.im0 k hkl; clear ho h1 h2 hb)
            | (go_at_call 112; refine (clone_any (it xs k).A (it xs k).c (it xs k).ns _ HRd.out.ns (by omega) hn1).mono ?_; rintro e wc ⟨g1, d1, rfl, ho, h1, h2, hb⟩; have HXc := Lib.hid (HXd.out.next hb); have HBc := Lib.hid (below_next HBd.out hb); have HEc := Lib.hid ho; have HQc := Lib.hid (show wr.heap.size + 1 ≤ g1 ∧ g1 < wc.heap.size ∧ wr.heap.size + 1 ≤ wc.heap.size from by have := HSd.out; have := hb.size; omega); clear ho h1 h2 hb; obtain ⟨w3, hrun, hown, hgrow⟩ := run_make_full (P := Try.prog) wc wr.heap.size 62 3 i1 (.int .i64 0) 1 Try.underlying62 hi1 hy0 hy1 .i64 .i64 (it xs k).ms.length (by rw [hy2]; omega) (by unfold maxLen; omega) (HBc.out.size); have hf := own_of_row (α := Int) (cap := (it xs k).ms.length) (e := 3) (base := wr.heap.size) (zer (it xs k).ms.length) (by unfold zer; rw [← (HZI.out _), List.length_replicate]; exact hown); have hb := (Below.refl _ _).grown hgrow (Nat.le_refl _) (fun k e => by cases e); have hlt' : wc.heap.size < w3.heap.size := (hown.lt _ rfl).2; have HX2 := Lib.hid (HXc.out.next hb); have HB3 := Lib.hid (below_next HBc.out hb); have HO3 := Lib.hid (HO.out.block (HB3.out.block _ hsr)); have HE2 := Lib.hid (HEc.out.block (hb.block _ HQc.out.2.1)); have HF2 := Lib.hid hf; have HQ2 := Lib.hid (show wr.heap.size + 1 ≤ g1 ∧ wr.heap.size + 1 ≤ wc.heap.size ∧ g1 ≠ wc.heap.size ∧ g1 < w3.heap.size ∧ wc.heap.size < w3.heap.size from by have := HQc.out; have := hb.size; omega); obtain ⟨⟨m0, m1, m2⟩, f0, f1, f2⟩ := HO3.out.im0 k hkl; clear hown hgrow hf hb hlt')
            | fail)
        all_goals
          first | (generalize hg2 : wc.heap.size = g2 at HF2 HQ2 ⊢) | (rw [show W.drew.heap.size = W.heap.size from rfl] at HF2 HQ2; (try rw [show W.drew.heap.size = W.heap.size from rfl]); generalize hg2 : W.heap.size = g2 at HF2 HQ2 ⊢)
          have hst := cln_set (w1 := w1) (wr := wr) (w3 := w3) (xs := xs) (ys := ys) (G := G) (k := k) (g1 := g1) (g2 := g2) (y := ⟨some ⟨g1, 0, none⟩, d1, some ⟨g2, 0, none⟩, (it xs k).ms.length, (it xs k).ns, zer (it xs k).ms.length, (it xs k).late⟩) HC.out HO3.out HAp.out hsr HB3.out HB.out hkl HQ2.out ⟨rfl, rfl, rfl, by rw [HEQ.out], rfl, HE2.out, by rw [← HEQ.out]; exact HF2.out⟩
          have hpc : Flat.cells (⟨some ⟨g1, 0, none⟩, d1, some ⟨g2, 0, none⟩, (it xs k).ms.length, (it xs k).ns, zer (it xs k).ms.length, (it xs k).late⟩ : Im) = [.slice (some ⟨g1, 0, none⟩) (it xs k).ns.length d1, .slice (some ⟨g2, 0, none⟩) (it xs k).ms.length (it xs k).ms.length, .bool (it xs k).late] := by
            show Im.cs _ = _
            simp [Im.cs, zer_len]
          rw [hpc] at hst
          obtain ⟨hc4, ho4, ha4, hs4, hb4⟩ := hst
          have HC4 := Lib.hid hc4
          have HO4 := Lib.hid ho4
          have HA4 := Lib.hid ha4
          have HY4 := Lib.hid (show (ys.set k (⟨some ⟨g1, 0, none⟩, d1, some ⟨g2, 0, none⟩, (it xs k).ms.length, (it xs k).ns, zer (it xs k).ms.length, (it xs k).late⟩ : Im)).length = xs.length by rw [List.length_set]; exact HY.out)
          clear hc4 ho4 ha4 hpc
          go_wp2
          go_roundw
          case rel => exact ⟨k + 1, _, _, by omega, by go_num, HY4, HC4, HO4, HA4, hs4, hb4⟩
          case measure => simp [intOf]; omega
      · obtain rfl : k = xs.length := by omega
        have hcl := cln_own (S := fun i => w.heap.size ≤ i ∧ i < wr.heap.size) (R := some ⟨w1.heap.size, 0, none⟩) (g := w1.heap.size) HK.out HY.out HC.out HAp.out (fun _ => ⟨_, 0, rfl, rfl, hsr, HO.out⟩) (fun i hi q => by have := HAp.out.lo i hi; omega) (fun _ => ⟨hs01, hsr⟩) (fun i q1 q2 => ⟨by omega, q2⟩)
        have HCL := Lib.hid hcl
        have HBW := Lib.hid hbw
        have hy := HY.out
        clear hb hbw hcl
        go_wp2
        go_returns
        exact ⟨⟨some ⟨w1.heap.size, 0, none⟩, xs.length, ys, w1.heap.size, G, by rw [hy]; rfl, HCL.out.1, HCL.out.2⟩, HBW.out⟩
  · rw [pB_no hok] at HA ⊢
    have HV := Lib.hid (clnF_no hok)
    clear hok
    go_enter Try.func65, Try.ntmps65
    go_wp2_with fail
    refine HA.out.mono ?_
    rintro e w1 ⟨rfl, hb1⟩
    have HB1 := Lib.hid hb1
    clear hb1 HA
    go_wp2
    go_returns
    exact ⟨⟨none, 0, [], 0, fun _ => 0, rfl, by rw [HV.out]; exact SameS.refl _, Owned.nil _ _ _, fun i hi => absurd hi (by simp), fun i hi => absurd hi (by simp), fun i hi => absurd hi (by simp), fun i j _ hi => absurd hi (by simp), fun hi => absurd hi (by simp), fun i hi => absurd hi (by simp)⟩, HB1.out⟩
end Go.Proofs.Ytpmjfanalcaodaa
