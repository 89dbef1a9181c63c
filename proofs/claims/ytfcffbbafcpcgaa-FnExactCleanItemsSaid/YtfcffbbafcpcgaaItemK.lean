/- An item without marks, in the model. -/
import Derived.Test.YtfcffbbafcpcgaaItemC
import Derived.Test.YtfcffbbafcpcgaaApp
import Derived.Test.YtfcffbbafcpcgaaAppN
import Derived.Deep.RegionHeld3
namespace Go.Proofs.Ytfcffbbafcpcgaa
open Go.ChangeShapes Go.WideShapes Go.ChangeAt Go.RowKit Go.PlainAid
set_option linter.unusedVariables false

theorem stop_body {P : Program} {f : Func} {R : Ending → World → Prop} {x : Exit} {a : Act} {w : World} (h : Stop (∀ w', w' = w → bodyPost P f R x a w')) : bodyPost P f R x a w := h.of w rfl
theorem str_src {w W : World} {B : Nat} {A : Option Addr} {xs : List ByteArray} (h : Lst w B A xs) (hb : Below B w W) : 0 < xs.length → ∃ ad, A = some ad ∧ ∀ j u, (xs.map Value.string)[j]? = some u → W.cell? (ad.add j) = some u := fun hp => by
  obtain ⟨b, o, rfl, hbl, hc⟩ := h.str hp
  refine ⟨_, rfl, fun j u hj => ?_⟩
  have hj' : j < xs.length := by
    have := (List.getElem?_eq_some_iff.1 hj).1
    simpa using this
  rw [List.getElem?_map, it_get xs j hj'] at hj
  have hu : Value.string (it xs j) = u := by simpa using hj
  rw [← hu]
  have hadd : (⟨b, o, none⟩ : Addr).add j = ⟨b, o + j, none⟩ := by
    unfold Addr.add
    by_cases e : j = 0 <;> simp [e]
  rw [hadd]
  exact (hb.cell (p := ⟨b, o + j, none⟩) hbl).trans (hc j hj')
theorem str_one (xs : List ByteArray) : ∀ u ∈ xs.map Value.string, u.oneCell' = true := fun u hu => by
  obtain ⟨x, _, rfl⟩ := List.mem_map.1 hu
  rfl
theorem flatMap_str (xs : List ByteArray) : xs.flatMap Flat.cells = xs.map Value.string := by
  induction xs with
  | nil => rfl
  | cons x r ih =>
    rw [List.flatMap_cons, List.map_cons, ih]
    rfl
theorem row_pos {w : World} {B sz n : Nat} {e : TypeId} {v : Value} {cs : List Value} (h : w.ownsRow B e sz v n cs) (hn : 0 < n) : ∃ g cap, v = .slice (some ⟨g, 0, none⟩) n cap ∧ B ≤ g ∧ g < w.heap.size := by
  rcases h.2 with ⟨_, h0⟩ | ⟨g, cap, cur, hv, _⟩
  · omega
  · exact ⟨g, cap, hv, by subst hv; exact (h.lt g rfl).1, by subst hv; exact (h.lt g rfl).2⟩
theorem l1OwnS_any (A : Option Addr) (c : Nat) (l : List ByteArray) (w : World) (hr : Lst w w.heap.size A l) (hl : l.length ≤ 1048576) (hp : 0 < l.length) :
    Calls Try.prog 30 #[.slice A l.length c] w fun e w' => ∃ g cap, e = .returned (.slice (some ⟨g, 0, none⟩) l.length cap) ∧ OwnAt w' g 0 l ∧ w.heap.size ≤ g ∧ g < w'.heap.size ∧ Below w.heap.size w w' := by
  obtain ⟨i0, hi, hz0, hz1, hz2⟩ := info_parts Try.infoStr
  have HZ := Lib.hid (And.intro hi (And.intro hz0 (And.intro hz1 hz2)))
  have HR := Lib.hid hr
  clear hi hz0 hz1 hz2 hr
  go_enter Try.func30, Try.ntmps30
  go_wp2_with (at_builtin; refine wpList_append_src _ rfl (.tmp 3) (.tmp 4) 32 rfl w.heap.size 9 i0 (.string ⟨#[]⟩) 16 Try.underlying32 HZ.out.1 HZ.out.2.1 HZ.out.2.2.1 HZ.out.2.2.2 rfl (.slice (some ⟨w.heap.size, 0, none⟩) 0 0) 0 [] rfl (owns_emptyN _ _ _ _ _ (Nat.le_refl _) (heap_at_new _ _ _ rfl)) A l.length c (l.map Value.string) rfl (by simp) (str_src HR.out (below_alloc _ _)) (str_one l) (by unfold maxLen; omega) (by omega) (by simp) ?_; intro v1 w1 hown1 hgrow1 hat1; have HOWN1 := Lib.hid hown1; have HG1 := Lib.hid hgrow1; clear hown1 hgrow1 hat1)
  go_ret
  have ho : w1.ownsRow w.heap.size 9 1 v1 l.length (l.map Value.string) := by
    have := HOWN1.out
    rwa [Nat.zero_add, List.nil_append] at this
  obtain ⟨g, cap, rfl, h1, h2⟩ := row_pos ho hp
  refine ⟨g, cap, rfl, own_of_row (α := ByteArray) (cap := cap) (e := 9) (base := w.heap.size) l ?_, h1, h2, ?_⟩
  · rw [flatMap_str]
    exact ho
  · exact Below.grown (below_alloc _ _) HG1.out (by simp) (fun kk e => by simp [Value.ownBlock] at e; omega)

/-- The marks of an item without marks. -/
def zer (n : Nat) : List Int := List.replicate n 0
theorem zer_len (n : Nat) : (zer n).length = n := by simp [zer]
theorem imCells {w : World} {b : Nat} {x : Im} (h : ImBox w b x) : w.cell? ⟨b, 0, none⟩ = some (.slice x.A x.ns.length x.c) ∧ w.cell? ⟨b, 1, none⟩ = some (.slice x.L x.ms.length x.d) ∧ w.cell? ⟨b, 2, none⟩ = some (.bool x.late) := ⟨h.c0, h.c1, h.c2⟩
theorem ImBox.three {w : World} {b : Nat} {x : Im} (h : ImBox w b x) (b' : Nat) (hne : b ≠ b') (u0 u1 u2 : Value) : ImBox (((w.setCell ⟨b', 0, none⟩ u0).setCell ⟨b', 1, none⟩ u1).setCell ⟨b', 2, none⟩ u2) b x := by
  have hk : Only (fun i => i = b') w (((w.setCell ⟨b', 0, none⟩ u0).setCell ⟨b', 1, none⟩ u1).setCell ⟨b', 2, none⟩ u2) :=
    Only.put (S := fun i => i = b') (Only.put (S := fun i => i = b') (Only.put (S := fun i => i = b') (Only.refl _ w) b' 0 rfl _) b' 1 rfl _) b' 2 rfl _
  have hb := hk.block b h.lt (fun e => hne e)
  exact ⟨Nat.lt_of_lt_of_le h.lt hk.size, (World.cell?_of_block (a := ⟨b, 0, none⟩) hb).trans h.c0, (World.cell?_of_block (a := ⟨b, 1, none⟩) hb).trans h.c1, (World.cell?_of_block (a := ⟨b, 2, none⟩) hb).trans h.c2⟩
theorem below_adn (w : World) (o : Obj) : Below w.heap.size w (w.alloc o).drew := (below_alloc w o).trans ((below_drew _).mono (by simp))
set_option maxRecDepth 20000 in
set_option maxHeartbeats 1000000 in
theorem itClean_any (x : Im) (w : World) (hr : ImIn w w.heap.size x) (hok : ItOk x.ns x.ms) :
    Calls Try.prog 16 #[x.val] w fun e w' => ∃ g1 c1 g2 c2, e = .returned (.agg #[.slice (some ⟨g1, 0, none⟩) x.ns.length c1, .slice (some ⟨g2, 0, none⟩) x.ns.length c2, .bool x.late]) ∧ OwnAt w' g1 0 x.ns ∧ OwnAt w' g2 0 (zer x.ns.length) ∧ w.heap.size ≤ g1 ∧ w.heap.size ≤ g2 ∧ g1 ≠ g2 ∧ g1 < w'.heap.size ∧ g2 < w'.heap.size ∧ Below w.heap.size w w' := by
  have hl1 : x.ns.length ≤ 1048576 := by have := hok.hi; omega
  have hp1 : 0 < x.ns.length := hok.lo
  have HR := Lib.hid hr
  obtain ⟨i0, hi, hz0, hz1, hz2⟩ := info_parts Try.infoInt
  have HZ := Lib.hid (made_flat (α := Int) #[.int .i64 0] 0 x.ns.length rfl (by decide))
  clear hr hok
  unfold Im.val
  go_enter Try.func16, Try.ntmps16
  go_wp2_with fail
  generalize hW : World.alloc (World.alloc w _) _ = W
  have hB : Below w.heap.size w W := by
    rw [← hW]
    go_grown
  have hS : W.heap.size = w.heap.size + 2 := by rw [← hW]; simp
  have hX : ImBox W w.heap.size x := by
    rw [← hW]
    exact (imBox_new w _ x).next (below_alloc _ _)
  have hM : ImMem W (w.heap.size + 1) (.slice none 0 0) (.slice none 0 0) (.bool false) := by
    rw [← hW]
    exact imMem_new _ _ _ (by simp) _ _ _
  have HB0 := Lib.hid hB
  have HX0 := Lib.hid hX
  have HM0 := Lib.hid hM
  have HXd := Lib.hid (hX.next (below_drew W))
  have HR0 := Lib.hid (HR.out.next hB)
  have HS0 := Lib.hid hS
  clear hW hB hX hM hS
  have HRd := Lib.hid (HR0.out.next (below_drew W))
  have HMd := Lib.hid (HM0.out.below (below_drew W) (by have := HS0.out; omega))
  have HBd := Lib.hid (below_next HB0.out (below_drew W))
  have HSd : Hid (W.drew.heap.size = w.heap.size + 2) := HS0
  clear HX0 HM0 HB0 HR0
  (obtain ⟨wm, hrunm, hown, hgrow⟩ := run_make_full (P := Try.prog) W.drew w.heap.size 33 3 i0 (.int .i64 0) 1 Try.underlying33 hi hz0 hz1 .i64 .i64 x.ns.length (by rw [hz2]; omega) (by unfold maxLen; omega) (HBd.out.size); have hf := own_of_row (α := Int) (cap := x.ns.length) (e := 3) (base := w.heap.size) (zer x.ns.length) (by unfold zer; rw [← HZ.out, List.length_replicate]; exact hown); have hb := (Below.refl _ _).grown hgrow (Nat.le_refl _) (fun k e => by cases e); have hlt : W.drew.heap.size < wm.heap.size := (hown.lt _ rfl).2; have HXm := Lib.hid (HXd.out.next hb); have HMm := Lib.hid (HMd.out.below hb (by have := HSd.out; omega)); have HBm := Lib.hid (below_next HBd.out hb); have HRm := Lib.hid (HRd.out.next hb); have HFm := Lib.hid hf; have HSm := Lib.hid (show w.heap.size + 2 ≤ W.drew.heap.size ∧ W.drew.heap.size < wm.heap.size from by have := HSd.out; omega); clear hown hgrow hf hb hlt)
  go_region_held3 (fun w' => w'.cell? ⟨w.heap.size, 0, none⟩ = some (.slice x.A x.ns.length x.c) ∧ w'.cell? ⟨w.heap.size, 1, none⟩ = some (.slice x.L x.ms.length x.d) ∧ w'.cell? ⟨w.heap.size, 2, none⟩ = some (.bool x.late))
    (first | (with_reducible exact imCells HX2.out) | (with_reducible exact imCells HXc.out) | (with_reducible exact imCells HXm.out) | (with_reducible exact imCells HXd.out) | (with_reducible exact imCells (HX2.out.three (w.heap.size + 1) (by omega) _ _ _)))
    (first
      | (go_at_call 30; refine (l1OwnS_any x.A x.c x.ns _ HRm.out.ns hl1 hp1).mono ?_; rintro e w2 ⟨g1, c1, rfl, ho, h1, h2, hb⟩; have HX2 := Lib.hid (HXm.out.next hb); have HM2 := Lib.hid (HMm.out.below hb (by have := HSm.out; omega)); have HB2 := Lib.hid (below_next HBm.out hb); have HE2 := Lib.hid ho; have HF2 := Lib.hid (HFm.out.block (hb.block _ HSm.out.2)); have HQ2 := Lib.hid (show w.heap.size + 2 ≤ g1 ∧ w.heap.size + 2 ≤ W.drew.heap.size ∧ g1 ≠ W.drew.heap.size ∧ g1 < w2.heap.size ∧ W.drew.heap.size < w2.heap.size from by have := HSm.out; have := HSd.out; have := hb.size; omega); obtain ⟨m0, m1, m2, mf⟩ := HM2.out; clear ho h1 h2 hb)
      | (go_at_call 30; refine (l1OwnS_any x.A x.c x.ns _ HRd.out.ns hl1 hp1).mono ?_; rintro e w1 ⟨g1, c1, rfl, ho, h1, h2, hb⟩; have HXc := Lib.hid (HXd.out.next hb); have HMc := Lib.hid (HMd.out.below hb (by have := HSd.out; omega)); have HBc := Lib.hid (below_next HBd.out hb); have HEc := Lib.hid ho; have HQc := Lib.hid (show w.heap.size + 2 ≤ g1 ∧ g1 < w1.heap.size ∧ w.heap.size + 2 ≤ w1.heap.size from by have := HSd.out; have := hb.size; omega); clear ho h1 h2 hb; obtain ⟨w2, hrun, hown, hgrow⟩ := run_make_full (P := Try.prog) w1 w.heap.size 33 3 i0 (.int .i64 0) 1 Try.underlying33 hi hz0 hz1 .i64 .i64 x.ns.length (by rw [hz2]; omega) (by unfold maxLen; omega) (HBc.out.size); have hf := own_of_row (α := Int) (cap := x.ns.length) (e := 3) (base := w.heap.size) (zer x.ns.length) (by unfold zer; rw [← HZ.out, List.length_replicate]; exact hown); have hb := (Below.refl _ _).grown hgrow (Nat.le_refl _) (fun k e => by cases e); have hlt : w1.heap.size < w2.heap.size := (hown.lt _ rfl).2; have HX2 := Lib.hid (HXc.out.next hb); have HM2 := Lib.hid (HMc.out.below hb (by have := HQc.out; omega)); have HB2 := Lib.hid (below_next HBc.out hb); have HE2 := Lib.hid (HEc.out.block (hb.block _ HQc.out.2.1)); have HF2 := Lib.hid hf; have HQ2 := Lib.hid (show w.heap.size + 2 ≤ g1 ∧ w.heap.size + 2 ≤ w1.heap.size ∧ g1 ≠ w1.heap.size ∧ g1 < w2.heap.size ∧ w1.heap.size < w2.heap.size from by have := HQc.out; have := hb.size; omega); obtain ⟨m0, m1, m2, mf⟩ := HM2.out; clear hown hgrow hf hb hlt)
      | fail)
  all_goals
    first | (generalize hg2 : w1.heap.size = g2 at HF2 HQ2 ⊢) | (rw [show W.drew.heap.size = W.heap.size from rfl] at HF2 HQ2; (try rw [show W.drew.heap.size = W.heap.size from rfl]); generalize hg2 : W.heap.size = g2 at HF2 HQ2 ⊢)
    go_wp2
    refine stop_body ⟨?_⟩
    intro w8 hw8
    have hm8 : ImMem w8 (w.heap.size + 1) (.slice (some ⟨g1, 0, none⟩) x.ns.length c1) (.slice (some ⟨g2, 0, none⟩) x.ns.length x.ns.length) (.bool x.late) := by
      rw [hw8]
      exact ((HM2.out.set0 _).set1 _).set2 _
    have hk8 : Only (fun i => i = w.heap.size + 1) w2 w8 := by
      rw [hw8]
      exact Only.put (S := fun i => i = w.heap.size + 1) (Only.put (S := fun i => i = w.heap.size + 1) (Only.put (S := fun i => i = w.heap.size + 1) (Only.refl _ w2) _ 0 rfl _) _ 1 rfl _) _ 2 rfl _
    clear hw8 m0 m1 m2 mf
    obtain ⟨m0, m1, m2, mf⟩ := hm8
    refine bodyPost_ret (v := .agg #[.slice (some ⟨g1, 0, none⟩) x.ns.length c1, .slice (some ⟨g2, 0, none⟩) x.ns.length x.ns.length, .bool x.late]) (by simp [results, Try.results16, go_sem, m0, m1, m2]) rfl ?_
    obtain ⟨q1, q2, q3, q4, q5⟩ := HQ2.out
    exact ⟨g1, c1, g2, x.ns.length, rfl, HE2.out.block (hk8.block g1 q4 (by omega)), HF2.out.block (hk8.block g2 q5 (by omega)), by omega, by omega, q3, Nat.lt_of_lt_of_le q4 hk8.size, Nat.lt_of_lt_of_le q5 hk8.size, HB2.out.trans (hk8.below HB2.out.size (fun k hk => by omega))⟩
end Go.Proofs.Ytfcffbbafcpcgaa
