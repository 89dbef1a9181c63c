/- MarkLate in the model: a copy of the list, then its flags stored. -/
import Derived.Test.YtbhfhjhegcfdkaaPgM
import Derived.Deep.RegionHeld3
namespace Go.Proofs.Ytbhfhjhegcfdkaa
open Go.ChangeShapes Go.WideShapes Go.ChangeAt Go.RowKit Go.PlainAid
set_option linter.unusedVariables false

theorem lst_src {w W : World} {B : Nat} {A : Option Addr} {xs : List Int} (h : Lst w B A xs) (hb : Below B w W) : 0 < xs.length → ∃ ad, A = some ad ∧ ∀ j u, (xs.map (Value.int .i64))[j]? = some u → W.cell? (ad.add j) = some u := fun hp => by
  obtain ⟨b, o, rfl, hbl, hc⟩ := h.int hp
  refine ⟨_, rfl, fun j u hj => ?_⟩
  have hj' : j < xs.length := by
    have := (List.getElem?_eq_some_iff.1 hj).1
    simpa using this
  rw [List.getElem?_map, it_get xs j hj'] at hj
  have hu : Value.int .i64 (it xs j) = u := by simpa using hj
  rw [← hu]
  have hadd : (⟨b, o, none⟩ : Addr).add j = ⟨b, o + j, none⟩ := by
    unfold Addr.add
    by_cases e : j = 0 <;> simp [e]
  rw [hadd]
  exact (hb.cell (p := ⟨b, o + j, none⟩) hbl).trans (hc j hj')
theorem int_one (xs : List Int) : ∀ u ∈ xs.map (Value.int .i64), u.oneCell' = true := fun u hu => by
  obtain ⟨x, _, rfl⟩ := List.mem_map.1 hu
  rfl
theorem flatMap_int (xs : List Int) : xs.flatMap Flat.cells = xs.map (Value.int .i64) := by
  induction xs with
  | nil => rfl
  | cons x r ih =>
    rw [List.flatMap_cons, List.map_cons, ih]
    rfl
theorem l1Own_any (A : Option Addr) (c : Nat) (l : List Int) (w : World) (hr : Lst w w.heap.size A l) (hl : l.length ≤ 1048576) (hp : 0 < l.length) :
    Calls Try.prog 64 #[.slice A l.length c] w fun e w' => ∃ g cap, e = .returned (.slice (some ⟨g, 0, none⟩) l.length cap) ∧ OwnAt w' g 0 l ∧ w.heap.size ≤ g ∧ g < w'.heap.size ∧ Below w.heap.size w w' := by
  obtain ⟨i0, hi, hz0, hz1, hz2⟩ := info_parts Try.infoInt
  have HZ := Lib.hid (And.intro hi (And.intro hz0 (And.intro hz1 hz2)))
  have HR := Lib.hid hr
  clear hi hz0 hz1 hz2 hr
  go_enter Try.func64, Try.ntmps64
  go_wp2_with (at_builtin; refine wpList_append_src _ rfl (.tmp 3) (.tmp 4) 54 rfl w.heap.size 3 i0 (.int .i64 0) 8 Try.underlying54 HZ.out.1 HZ.out.2.1 HZ.out.2.2.1 HZ.out.2.2.2 rfl (.slice (some ⟨w.heap.size, 0, none⟩) 0 0) 0 [] rfl (owns_emptyN _ _ _ _ _ (Nat.le_refl _) (heap_at_new _ _ _ rfl)) A l.length c (l.map (Value.int .i64)) rfl (by simp) (lst_src HR.out (below_alloc _ _)) (int_one l) (by unfold maxLen; omega) (by omega) (by simp) ?_; intro v1 w1 hown1 hgrow1 hat1; have HOWN1 := Lib.hid hown1; have HG1 := Lib.hid hgrow1; clear hown1 hgrow1 hat1)
  go_ret
  have ho : w1.ownsRow w.heap.size 3 1 v1 l.length (l.map (Value.int .i64)) := by
    have := HOWN1.out
    rwa [Nat.zero_add, List.nil_append] at this
  obtain ⟨g, cap, rfl, h1, h2⟩ := row_pos ho hp
  refine ⟨g, cap, rfl, own_of_row (α := Int) (cap := cap) (e := 3) (base := w.heap.size) l ?_, h1, h2, ?_⟩
  · rw [flatMap_int]
    exact ho
  · exact Below.grown (below_alloc _ _) HG1.out (by simp) (fun kk e => by simp [Value.ownBlock] at e; omega)
theorem imBox_grown {w3 w4 : World} {b : Nat} {x : Im} {q : Option Nat} (h : ImBox w3 b x) (hg : w3.grownBy w4 q) (hne : ∀ m, q = some m → m < b) : ImBox w4 b x := by
  have hb := hg.block b h.lt (fun e => by have := hne b e.symm; omega)
  exact ⟨Nat.lt_of_lt_of_le h.lt hg.size, (World.cell?_of_block (a := ⟨b, 0, none⟩) hb).trans h.c0, (World.cell?_of_block (a := ⟨b, 1, none⟩) hb).trans h.c1, (World.cell?_of_block (a := ⟨b, 2, none⟩) hb).trans h.c2⟩
theorem imBox_alloc {w : World} {b : Nat} {x : Im} (h : ImBox w b x) (o : Obj) : ImBox (w.alloc o) b x := h.next (below_alloc w o)

set_option maxRecDepth 20000 in
set_option maxHeartbeats 2000000 in
theorem itOwn_cap (P : Option Addr) (c : Nat) (xs : List Im) (w : World) (hr : Ims w w.heap.size P xs) (hok : Near xs) :
    Calls Try.prog 40 #[.slice P xs.length c] w fun e w' => (∃ R d ys g G, e = .returned (.slice R ys.length d) ∧ (ys.length ≤ d ∧ d ≤ 9223372036854775807) ∧ SameS xs ys ∧ ImsOwn (fun i => w.heap.size ≤ i ∧ i < w'.heap.size) w' R g G ys) ∧ Below w.heap.size w w' := by
  obtain ⟨i0, hi, hz0, hz1, hz2⟩ := info_parts Try.infoIm
  have HZ := Lib.hid (And.intro hi (And.intro hz0 (And.intro hz1 hz2)))
  have HR := Lib.hid hr
  have HK := Lib.hid hok
  have h14 := hok.len
  clear hr hok hi hz0 hz1 hz2
  go_enter Try.func40, Try.ntmps40
  go_wp2_with fail
  go_loopw [3, 8] (fun v i wr => ∃ (k : Nat) (ys : List Im) (G : Nat → Nat), k ≤ xs.length ∧ i = .int .i64 k ∧ Hid (ys.length = k) ∧ Below w.heap.size w wr ∧ Hid (wr.ownsRow w.heap.size 56 3 v k (ys.flatMap Flat.cells)) ∧ Hid (CpTo wr xs ys G k) ∧ Hid (Apart G w.heap.size wr.heap.size (2 * k)) ∧ Hid (∀ i, i < 2 * k → v.ownBlock ≠ some (G i))) (fun _ i _ => xs.length - (intOf i).toNat)
  case atStart => exact ⟨0, [], fun _ => 0, Nat.zero_le _, rfl, Lib.hid rfl, Below.refl _ _, Lib.hid ⟨rfl, .inl ⟨rfl, rfl⟩⟩, Lib.hid (CpTo.zero _ _ _ _), Lib.hid ⟨fun i hi => absurd hi (by omega), fun i hi => absurd hi (by omega), fun i j h hi => absurd hi (by omega)⟩, Lib.hid (fun i hi => absurd hi (by omega))⟩
  case round =>
    obtain ⟨k, ys, G, hk, rfl, HY, hb, HO, HC, HAp, HNE⟩ := hrel
    by_cases hlt : k < xs.length
    · obtain ⟨b, o, rfl, hbl, hc⟩ := HR.out.out.im (by omega)
      obtain ⟨c0, c1, c2⟩ := (hc k hlt).below hb hbl
      have HE := Lib.hid ((HR.out.each k hlt).next hb)
      have hn3 := (HK.out.each k hlt).hi
      have hn1 := (HK.out.each k hlt).lo
      have HEQ := Lib.hid (HK.out.each k hlt).eq
      have hm3 : (it xs k).ms.length ≤ 3 := by have := HEQ.out; omega
      have hm1 : 0 < (it xs k).ms.length := by have := HEQ.out; omega
      have HB := Lib.hid hb
      have hbs := hb.size
      clear hc hb
      go_wp2_with fail
      generalize hW : World.alloc wr _ = W
      have hXW : ImBox W wr.heap.size (it xs k) := by
        rw [← hW]
        exact imBox_new wr _ _
      have hbW : Below wr.heap.size wr W := by
        rw [← hW]
        exact below_alloc _ _
      have hSW : W.heap.size = wr.heap.size + 1 := by rw [← hW]; simp
      have hbd : Below wr.heap.size wr W.drew := below_next hbW (below_drew W)
      have HXd := Lib.hid (hXW.next (below_drew W))
      have HRd := Lib.hid (HE.out.next hbd)
      have HBd := Lib.hid hbd
      have HSd : Hid (W.drew.heap.size = wr.heap.size + 1) := Lib.hid hSW
      clear hW hXW hbW hSW hbd c0 c1 c2
      go_region_held3 (fun w' => w'.cell? ⟨wr.heap.size, 0, none⟩ = some (.slice (it xs k).A (it xs k).ns.length (it xs k).c) ∧ w'.cell? ⟨wr.heap.size, 1, none⟩ = some (.slice (it xs k).L (it xs k).ms.length (it xs k).d) ∧ w'.cell? ⟨wr.heap.size, 2, none⟩ = some (.bool (it xs k).late))
        (first | (with_reducible exact imCells HX2.out) | (with_reducible exact imCells HXa.out) | (with_reducible exact imCells HXc.out) | (with_reducible exact imCells HXd.out) | (with_reducible exact imCells (imBox_alloc HX2.out _)) | (with_reducible exact imCells HX4.out))
        (first
          | (go_at_call 63; refine (l1OwnS_any (it xs k).A (it xs k).c (it xs k).ns _ HRd.out.ns (by omega) hn1).mono ?_; rintro e wa ⟨g1, d1, rfl, ho, h1, h2, hb⟩; have HXa := Lib.hid (HXd.out.next hb); have HBa := Lib.hid (below_next HBd.out hb); have HRa := Lib.hid (HRd.out.next hb); have HEa := Lib.hid ho; have HQa := Lib.hid (show wr.heap.size + 1 ≤ g1 ∧ g1 < wa.heap.size ∧ wr.heap.size + 1 ≤ wa.heap.size from by have := HSd.out; have := hb.size; omega); clear ho h1 h2 hb)
          | (go_at_call 64; refine (l1Own_any (it xs k).L (it xs k).d (it xs k).ms _ HRa.out.ms (by omega) hm1).mono ?_; rintro e w2 ⟨g2, d2, rfl, ho, h1, h2, hb⟩; have HX2 := Lib.hid (HXa.out.next hb); have HB2 := Lib.hid (below_next HBa.out hb); have HE2 := Lib.hid (HEa.out.block (hb.block _ HQa.out.2.1)); have HF2 := Lib.hid ho; have HQ2 := Lib.hid (show (wr.heap.size ≤ g1 ∧ wr.heap.size ≤ g2) ∧ g1 ≠ g2 ∧ g1 < w2.heap.size ∧ g2 < w2.heap.size from by have := HQa.out; have := hb.size; omega); have HOW := Lib.hid (own_next HO.out HB2.out); clear ho h1 h2 hb)
          | (go_at_call 64; refine (l1Own_any (it xs k).L (it xs k).d (it xs k).ms _ HRd.out.ms (by omega) hm1).mono ?_; rintro e wc ⟨g2, d2, rfl, ho, h1, h2, hb⟩; have HXc := Lib.hid (HXd.out.next hb); have HBc := Lib.hid (below_next HBd.out hb); have HRc := Lib.hid (HRd.out.next hb); have HFc := Lib.hid ho; have HQc := Lib.hid (show wr.heap.size + 1 ≤ g2 ∧ g2 < wc.heap.size ∧ wr.heap.size + 1 ≤ wc.heap.size from by have := HSd.out; have := hb.size; omega); clear ho h1 h2 hb)
          | (go_at_call 63; refine (l1OwnS_any (it xs k).A (it xs k).c (it xs k).ns _ HRc.out.ns (by omega) hn1).mono ?_; rintro e w2 ⟨g1, d1, rfl, ho, h1, h2, hb⟩; have HX2 := Lib.hid (HXc.out.next hb); have HB2 := Lib.hid (below_next HBc.out hb); have HF2 := Lib.hid (HFc.out.block (hb.block _ HQc.out.2.1)); have HE2 := Lib.hid ho; have HQ2 := Lib.hid (show (wr.heap.size ≤ g1 ∧ wr.heap.size ≤ g2) ∧ g1 ≠ g2 ∧ g1 < w2.heap.size ∧ g2 < w2.heap.size from by have := HQc.out; have := hb.size; omega); have HOW := Lib.hid (own_next HO.out HB2.out); clear ho h1 h2 hb)
          | (refine step_append_srcN _ (by rfl) (.tmp 12) (.tmp 22) 28 (by rfl) w.heap.size 56 i0 (.agg #[.slice none 0 0, .slice none 0 0, .bool false]) 3 56 (by decide) Try.underlying28 HZ.out.1 HZ.out.2.1 HZ.out.2.2.1 HZ.out.2.2.2 rfl _ k (ys.flatMap Flat.cells) (by rfl) (HOW.out.alloc _) (some ⟨w2.heap.size, 0, none⟩) 1 1 (Im.cs ⟨some ⟨g1, 0, none⟩, d1, some ⟨g2, 0, none⟩, d2, (it xs k).ns, (it xs k).ms, (it xs k).late⟩) (by rfl) rfl (fun _ => ⟨_, rfl, im_news (by simp) (by simp) (by simp)⟩) (im_one1 _) (by unfold maxLen; omega) (by omega) (by have := HB2.out.size; simp; omega) ?_; intro v1 w4 hown hgrow hat; have HX4 := Lib.hid (imBox_grown (imBox_alloc HX2.out _) hgrow (fun m e => (HO.out.lt m e).2)))
          | fail)
      all_goals
        have hst := cp_step (y := ⟨some ⟨g1, 0, none⟩, d1, some ⟨g2, 0, none⟩, d2, (it xs k).ns, (it xs k).ms, (it xs k).late⟩) HY.out HO.out HC.out HAp.out HNE.out HB.out HB2.out HQ2.out rfl ⟨rfl, rfl, rfl, rfl, rfl, HE2.out, HF2.out⟩ hgrow hat
        obtain ⟨hb4, hc4, ha4, hn4⟩ := hst
        have hy4 := HY.out
        have HOWN := Lib.hid (show w4.ownsRow w.heap.size 56 3 v1 (k + 1) ((ys ++ [(⟨some ⟨g1, 0, none⟩, d1, some ⟨g2, 0, none⟩, d2, (it xs k).ns, (it xs k).ms, (it xs k).late⟩ : Im)]).flatMap Flat.cells) from by
          rw [List.flatMap_append, List.flatMap_cons, List.flatMap_nil, List.append_nil]
          exact hown)
        have HC4 := Lib.hid hc4
        have HA4 := Lib.hid ha4
        have HN4 := Lib.hid hn4
        have HY4 := Lib.hid (show (ys ++ [(⟨some ⟨g1, 0, none⟩, d1, some ⟨g2, 0, none⟩, d2, (it xs k).ns, (it xs k).ms, (it xs k).late⟩ : Im)]).length = k + 1 by simp [hy4])
        clear hown hgrow hat hc4 ha4 hn4 hy4
        go_wp2
        go_roundw
        case rel => exact ⟨k + 1, _, _, by omega, by go_num, HY4, hb4, HOWN, HC4, HA4, HN4⟩
        case measure => simp [intOf]; omega
    · obtain rfl : k = xs.length := by omega
      have ho := HO.out
      rw [← HY.out] at ho
      obtain ⟨R, d, g, rfl, h1, h2⟩ := own_form ys ho
      have HRM := Lib.hid (own_room ho)
      have hwr := hb.size
      have hy := HY.out
      have hcl := cp_own (S := fun i => w.heap.size ≤ i ∧ i < wr.heap.size) (R := R) (g := g) hy HC.out HAp.out h1 (fun i hi q => HNE.out i hi (by rw [q]; exact (h2 (by omega)).2.2)) (fun hp => ⟨by have := (h2 hp).1; omega, (h2 hp).2.1⟩) (fun i q1 q2 => ⟨by omega, q2⟩)
      have HCL := Lib.hid hcl
      have HBW := Lib.hid hb
      clear hb ho h1 h2 hcl
      go_wp2
      go_returns
      exact ⟨⟨R, d, ys, g, G, rfl, HRM.out, HCL.out.1, HCL.out.2⟩, HBW.out⟩
theorem itOwn_any (P : Option Addr) (c : Nat) (xs : List Im) (w : World) (hr : Ims w w.heap.size P xs) (hok : Near xs) :
    Calls Try.prog 40 #[.slice P xs.length c] w fun e w' => (∃ R d ys g G, e = .returned (.slice R ys.length d) ∧ SameS xs ys ∧ ImsOwn (fun i => w.heap.size ≤ i ∧ i < w'.heap.size) w' R g G ys) ∧ Below w.heap.size w w' :=
  (itOwn_cap P c xs w hr hok).mono fun e w' ⟨⟨R, d, ys, g, G, h1, _, h3⟩, h4⟩ => ⟨⟨R, d, ys, g, G, h1, h3⟩, h4⟩
end Go.Proofs.Ytbhfhjhegcfdkaa
