/- CleanItems in the model. -/
import Derived.Test.YtfcffbbafcpcgaaItemP
namespace Go.Proofs.Ytfcffbbafcpcgaa
open Go.ChangeShapes Go.WideShapes Go.ChangeAt Go.RowKit Go.PlainAid
set_option linter.unusedVariables false

set_option maxHeartbeats 2000000 in
theorem sCleanItems_any (P : Option Addr) (c : Nat) (xs : List Im) (w : World) (hr : Ims w w.heap.size P xs) (hl : ImsFits xs) :
    Calls Try.prog 6 #[.slice P xs.length c] w fun e w' => (∃ R d ys g G, e = .returned (.tuple #[.slice R ys.length d, .bool (pB (ListOk xs))]) ∧ SameS (clnF xs) ys ∧ ImsOwn (fun i => w.heap.size ≤ i ∧ i < w'.heap.size) w' R g G ys) ∧ Below w.heap.size w w' := by
  have HA := Lib.hid (itList_any P c xs w hr hl)
  have HR := Lib.hid hr
  clear hr hl
  by_cases hok : ListOk xs
  · rw [pB_yes hok] at HA ⊢
    obtain ⟨i0, hi, hz0, hz1, hz2⟩ := info_parts Try.infoIm
    have HZ := Lib.hid (And.intro hi (And.intro hz0 (And.intro hz1 hz2)))
    have HK := Lib.hid hok
    have h14 := hok.len
    clear hok hi hz0 hz1 hz2
    go_enter Try.func6, Try.ntmps6
    go_wp2_with fail
    refine HA.out.mono ?_
    rintro e w1 ⟨rfl, hb1⟩
    have HB1 := Lib.hid hb1
    have hs01 := hb1.size
    clear hb1 HA
    go_wp2_with fail
    go_loopw [4, 12] (fun v i wr => ∃ (k : Nat) (ys : List Im) (G : Nat → Nat), k ≤ xs.length ∧ i = .int .i64 k ∧ Hid (ys.length = k) ∧ Below w1.heap.size w1 wr ∧ Hid (wr.ownsRow w1.heap.size 37 3 v k (ys.flatMap Flat.cells)) ∧ Hid (ClnTo wr xs ys G k) ∧ Hid (Apart G w1.heap.size wr.heap.size (2 * k)) ∧ Hid (∀ i, i < 2 * k → v.ownBlock ≠ some (G i))) (fun _ i _ => xs.length - (intOf i).toNat)
    case atStart => exact ⟨0, [], fun _ => 0, Nat.zero_le _, rfl, Lib.hid rfl, Below.refl _ _, Lib.hid ⟨rfl, .inl ⟨rfl, rfl⟩⟩, Lib.hid (fun j hj => absurd hj (by omega)), Lib.hid ⟨fun i hi => absurd hi (by omega), fun i hi => absurd hi (by omega), fun i j h hi => absurd hi (by omega)⟩, Lib.hid (fun i hi => absurd hi (by omega))⟩
    case round =>
      obtain ⟨k, ys, G, hk, rfl, HY, hb, HO, HC, HAp, HNE⟩ := hrel
      have hbw := below_next HB1.out hb
      by_cases hlt : k < xs.length
      · obtain ⟨b, o, rfl, hbl, hc⟩ := HR.out.out.im (by omega)
        obtain ⟨c0, c1, c2⟩ := (hc k hlt).below hbw hbl
        have HE := Lib.hid ((HR.out.each k hlt).next hbw)
        have HI := Lib.hid (HK.out.each k hlt)
        have hn3 := (HK.out.each k hlt).hi
        have HB := Lib.hid hb
        clear hc hb hbw
        go_wp2_with fail
        refine (itClean_any (it xs k) _ (HE.out.next (below_alloc _ _)) HI.out).mono ?_
        rintro e w2 ⟨g1, k1, g2, k2, rfl, ho1, ho2, l1, l2, lne, l3, l4, hb2⟩
        have hs1 : wr.heap.size < w2.heap.size := by
          have := hb2.size
          simp at this
          omega
        have HB2 := Lib.hid (below_next (below_alloc _ _) hb2)
        have hq : wr.heap.size ≤ g1 ∧ wr.heap.size ≤ g2 := by
          simp at l1 l2
          omega
        have HQ := Lib.hid (And.intro hq (And.intro lne (And.intro l3 l4)))
        have HO1 := Lib.hid ho1
        have HO2 := Lib.hid ho2
        have HOW := Lib.hid (own_next HO.out HB2.out)
        have hb12 := HB.out.size
        clear hb2 ho1 ho2 l1 l2 lne l3 l4 hq c0 c1 c2
        go_wp2_with (at_builtin; refine wpList_append_srcN _ rfl (.tmp 16) (.tmp 19) 24 rfl w1.heap.size 37 i0 (.agg #[.slice none 0 0, .slice none 0 0, .bool false]) 3 56 (by decide) Try.underlying24 HZ.out.1 HZ.out.2.1 HZ.out.2.2.1 HZ.out.2.2.2 rfl _ k (ys.flatMap Flat.cells) rfl (HOW.out.alloc _) (some ⟨w2.heap.size, 0, none⟩) 1 1 (Im.cs ⟨some ⟨g1, 0, none⟩, k1, some ⟨g2, 0, none⟩, k2, (it xs k).ns, zer (it xs k).ns.length, (it xs k).late⟩) rfl rfl (fun _ => ⟨_, rfl, im_news (by simp) (by simp [zer_len]) (by simp)⟩) (im_one1 _) (by unfold maxLen; omega) (by omega) (by simp; omega) ?_; intro v1 w4 hown hgrow hat)
        have hst := cln_step (y := ⟨some ⟨g1, 0, none⟩, k1, some ⟨g2, 0, none⟩, k2, (it xs k).ns, zer (it xs k).ns.length, (it xs k).late⟩) HY.out HO.out HC.out HAp.out HNE.out HB.out HB2.out HQ.out rfl ⟨rfl, rfl, rfl, rfl, rfl, HO1.out, HO2.out⟩ hgrow hat
        obtain ⟨hb4, hc4, ha4, hn4⟩ := hst
        have hy4 := HY.out
        have HOWN := Lib.hid (show w4.ownsRow w1.heap.size 37 3 v1 (k + 1) ((ys ++ [(⟨some ⟨g1, 0, none⟩, k1, some ⟨g2, 0, none⟩, k2, (it xs k).ns, zer (it xs k).ns.length, (it xs k).late⟩ : Im)]).flatMap Flat.cells) from by
          rw [List.flatMap_append, List.flatMap_cons, List.flatMap_nil, List.append_nil]
          exact hown)
        have HC4 := Lib.hid hc4
        have HA4 := Lib.hid ha4
        have HN4 := Lib.hid hn4
        have HY4 := Lib.hid (show (ys ++ [(⟨some ⟨g1, 0, none⟩, k1, some ⟨g2, 0, none⟩, k2, (it xs k).ns, zer (it xs k).ns.length, (it xs k).late⟩ : Im)]).length = k + 1 by simp [hy4])
        clear hown hgrow hat hc4 ha4 hn4 hy4
        go_roundw
        case rel => exact ⟨k + 1, _, _, by omega, by go_num, HY4, hb4, HOWN, HC4, HA4, HN4⟩
        case measure => simp [intOf]; omega
      · obtain rfl : k = xs.length := by omega
        have ho := HO.out
        rw [← HY.out] at ho
        obtain ⟨R, d, g, rfl, h1, h2⟩ := own_form ys ho
        have hwr := hb.size
        have hy := HY.out
        have hcl := cln_own (S := fun i => w.heap.size ≤ i ∧ i < wr.heap.size) (R := R) (g := g) HK.out hy HC.out HAp.out h1 (fun i hi q => HNE.out i hi (by rw [q]; exact (h2 (by omega)).2.2)) (fun hp => ⟨by have := (h2 hp).1; omega, (h2 hp).2.1⟩) (fun i q1 q2 => ⟨by omega, q2⟩)
        have HCL := Lib.hid hcl
        have HBW := Lib.hid hbw
        clear hb hbw ho h1 h2 hcl
        go_wp2
        go_returns
        exact ⟨⟨R, d, ys, g, G, rfl, HCL.out.1, HCL.out.2⟩, HBW.out⟩
  · rw [pB_no hok] at HA ⊢
    have HV := Lib.hid (clnF_no hok)
    clear hok
    go_enter Try.func6, Try.ntmps6
    go_wp2_with fail
    refine HA.out.mono ?_
    rintro e w1 ⟨rfl, hb1⟩
    have HB1 := Lib.hid hb1
    clear hb1 HA
    go_wp2
    go_returns
    exact ⟨⟨none, 0, [], 0, fun _ => 0, rfl, by rw [HV.out]; exact SameS.refl _, Owned.nil _ _ _, fun i hi => absurd hi (by simp), fun i hi => absurd hi (by simp), fun i hi => absurd hi (by simp), fun i j _ hi => absurd hi (by simp), fun hi => absurd hi (by simp), fun i hi => absurd hi (by simp)⟩, HB1.out⟩
end Go.Proofs.Ytfcffbbafcpcgaa
