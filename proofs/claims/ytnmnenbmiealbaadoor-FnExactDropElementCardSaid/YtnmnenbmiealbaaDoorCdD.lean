/- Copies of codes in the model. -/
import Derived.Test.YtnmnenbmiealbaaDoorCdC
import Derived.Test.YtnmnenbmiealbaaDoorAppN
import Derived.Test.YtnmnenbmiealbaaDoorCdQ
import Derived.Deep.RegionHeld3
namespace Go.Proofs.YtnmnenbmiealbaaDoor
open Go.ChangeShapes Go.WideShapes Go.ChangeAt Go.RowKit Go.PlainAid Go.Sort
set_option linter.unusedVariables false

theorem lst_src {w W : World} {B : Nat} {A : Option Addr} {xs : List Int} (h : Lst w B A xs) (hb : Below B w W) : 0 < xs.length → ∃ ad, A = some ad ∧ ∀ j u, (xs.map (Value.int .i64))[j]? = some u → W.cell? (ad.add j) = some u := fun hp => by
  obtain ⟨b, o, rfl, hbl, hc⟩ := h.int hp
  refine ⟨_, rfl, fun j u hj => ?_⟩
  have hj' : j < xs.length := by
    have := (List.getElem?_eq_some_iff.1 hj).1
    simpa using this
  rw [List.getElem?_map, it_get xs j hj'] at hj
  have hu : Value.int .i64 (it xs j) = u := by simpa using hj
  rw [← hu]
  have hadd : (⟨b, o, none⟩ : Addr).add j = ⟨b, o + j, none⟩ := by
    unfold Addr.add
    by_cases e : j = 0 <;> simp [e]
  rw [hadd]
  exact (hb.cell (p := ⟨b, o + j, none⟩) hbl).trans (hc j hj')
theorem el_src {w W : World} {B : Nat} {A : Option Addr} {xs : List El} (h : Lst w B A xs) (hb : Below B w W) : 0 < xs.length → ∃ ad, A = some ad ∧ ∀ j u, (xs.flatMap Flat.cells)[j]? = some u → W.cell? (ad.add j) = some u := fun hp => by
  obtain ⟨b, o, rfl, hbl, hc⟩ := h hp
  refine ⟨_, rfl, fun j u hj => ?_⟩
  have := CellsAll (by decide) hc j u hj
  have hadd : (⟨b, o, none⟩ : Addr).add j = ⟨b, o + j, none⟩ := by
    unfold Addr.add
    by_cases e : j = 0 <;> simp [e]
  rw [hadd]
  exact (hb.cell (p := ⟨b, o + j, none⟩) hbl).trans this
theorem int_one (xs : List Int) : ∀ u ∈ xs.map (Value.int .i64), u.oneCell' = true := fun u hu => by
  obtain ⟨x, _, rfl⟩ := List.mem_map.1 hu
  rfl
theorem row_pos {w : World} {B sz n : Nat} {e : TypeId} {v : Value} {cs : List Value} (h : w.ownsRow B e sz v n cs) (hn : 0 < n) : ∃ g cap, v = .slice (some ⟨g, 0, none⟩) n cap ∧ B ≤ g ∧ g < w.heap.size := by
  rcases h.2 with ⟨_, h0⟩ | ⟨g, cap, cur, hv, _⟩
  · omega
  · exact ⟨g, cap, hv, by subst hv; exact (h.lt g rfl).1, by subst hv; exact (h.lt g rfl).2⟩

theorem l1Own_any (A : Option Addr) (c : Nat) (l : List Int) (w : World) (hr : Lst w w.heap.size A l) (hl : l.length ≤ 1048576) (hp : 0 < l.length) :
    Calls Tryd.prog 74 #[.slice A l.length c] w fun e w' => ∃ g cap, e = .returned (.slice (some ⟨g, 0, none⟩) l.length cap) ∧ OwnAt w' g 0 l ∧ w.heap.size ≤ g ∧ g < w'.heap.size ∧ Below w.heap.size w w' := by
  obtain ⟨i0, hi, hz0, hz1, hz2⟩ := info_parts Tryd.infoInt
  have HZ := Lib.hid (And.intro hi (And.intro hz0 (And.intro hz1 hz2)))
  have HR := Lib.hid hr
  clear hi hz0 hz1 hz2 hr
  go_enter Tryd.func74, Tryd.ntmps74
  go_wp2_with (at_builtin; refine wpList_append_src _ rfl (.tmp 3) (.tmp 4) 23 rfl w.heap.size 3 i0 (.int .i64 0) 8 Tryd.underlying23 HZ.out.1 HZ.out.2.1 HZ.out.2.2.1 HZ.out.2.2.2 rfl (.slice (some ⟨w.heap.size, 0, none⟩) 0 0) 0 [] rfl (owns_emptyN _ _ _ _ _ (Nat.le_refl _) (heap_at_new _ _ _ rfl)) A l.length c (l.map (Value.int .i64)) rfl (by simp) (lst_src HR.out (below_alloc _ _)) (int_one l) (by unfold maxLen; omega) (by omega) (by simp) ?_; intro v1 w1 hown1 hgrow1 hat1; have HOWN1 := Lib.hid hown1; have HG1 := Lib.hid hgrow1; clear hown1 hgrow1 hat1)
  go_ret
  have ho : w1.ownsRow w.heap.size 3 1 v1 l.length (l.map (Value.int .i64)) := by
    have := HOWN1.out
    rwa [Nat.zero_add, List.nil_append] at this
  obtain ⟨g, cap, rfl, h1, h2⟩ := row_pos ho hp
  refine ⟨g, cap, rfl, own_of_row (α := Int) (cap := cap) (e := 3) (base := w.heap.size) l ?_, h1, h2, ?_⟩
  · rw [flatMap_int]
    exact ho
  · exact Below.grown (below_alloc _ _) HG1.out (by simp) (fun kk e => by simp [Value.ownBlock] at e; omega)
theorem BoxAt.six {w : World} {b : Nat} {A L : Option Addr} {c d : Nat} {x : Cd} (h : BoxAt w b A c L d x) (b' : Nat) (hne : b ≠ b') (u0 u1 u2 u3 u4 u5 : Value) : BoxAt (put6 w b' u0 u1 u2 u3 u4 u5) b A c L d x := by
  have hk := only_six w b' u0 u1 u2 u3 u4 u5
  have hb := hk.block b h.lt (fun e => hne e)
  refine ⟨Nat.lt_of_lt_of_le h.lt hk.size, ?_, ?_, ?_, ?_, ?_, ?_⟩
  · exact (World.cell?_of_block (a := ⟨b, 0, none⟩) hb).trans h.box.c0
  · exact (World.cell?_of_block (a := ⟨b, 1, none⟩) hb).trans h.box.c1
  · exact (World.cell?_of_block (a := ⟨b, 2, none⟩) hb).trans h.box.c2
  · exact (World.cell?_of_block (a := ⟨b, 3, none⟩) hb).trans h.box.c3
  · exact (World.cell?_of_block (a := ⟨b, 4, none⟩) hb).trans h.box.c4
  · exact (World.cell?_of_block (a := ⟨b, 5, none⟩) hb).trans h.box.c5
theorem BoxAt.six' {w : World} {b : Nat} {A L : Option Addr} {c d : Nat} {x : Cd} (h : BoxAt w b A c L d x) (b' : Nat) (hne : b ≠ b') (u0 u1 u2 u3 u4 u5 : Value) : BoxAt ((((((w.setCell ⟨b', 0, none⟩ u0).setCell ⟨b', 1, none⟩ u1).setCell ⟨b', 2, none⟩ u2).setCell ⟨b', 3, none⟩ u3).setCell ⟨b', 4, none⟩ u4).setCell ⟨b', 5, none⟩ u5) b A c L d x := h.six b' hne u0 u1 u2 u3 u4 u5
theorem below_adn (w : World) (o : Obj) : Below w.heap.size w (w.alloc o).drew := (below_alloc w o).trans ((below_drewn _).mono (by simp))
theorem box1' {w : World} {b : Nat} {A L : Option Addr} {c d : Nat} {x : Cd} (h : BoxAt w b A c L d x) :
    w.cell? ⟨b, 0, none⟩ = some (.slice A x.els.length c) ∧ w.cell? ⟨b, 1, none⟩ = some (.slice L x.lims.length d) ∧ w.cell? ⟨b, 2, none⟩ = some (.int .i64 x.rep) ∧ w.cell? ⟨b, 3, none⟩ = some (.int .i64 x.bon) ∧ w.cell? ⟨b, 4, none⟩ = some (.int .i64 x.kee) ∧ w.cell? ⟨b, 5, none⟩ = some (.int .i64 x.fal) :=
  ⟨h.box.c0, h.box.c1, h.box.c2, h.box.c3, h.box.c4, h.box.c5⟩

set_option maxHeartbeats 400000 in
theorem sOwn_any (A L : Option Addr) (c d : Nat) (x : Cd) (w : World) (hr : CdAt w A L x) (hok : CdOk x) :
    Calls Tryd.prog 45 #[x.val A c L d] w fun e w' => ∃ g1 c1 g2 c2, e = .returned (x.val (some ⟨g1, 0, none⟩) c1 (some ⟨g2, 0, none⟩) c2) ∧ CdNew w' w.heap.size g1 g2 x ∧ Below w.heap.size w w' := by
  have hl1 : x.els.length ≤ 1048576 := by have := hok.els.hi; omega
  have hl2 : x.lims.length ≤ 1048576 := by have := hok.lims.len; omega
  have hp1 : 0 < x.els.length := by have := hok.els.lo; omega
  have hp2 : 0 < x.lims.length := by have := hok.lims.len; omega
  have HR := Lib.hid hr
  obtain ⟨i0, hi, hz0, hz1, hz2⟩ := info_parts Tryd.infoEl
  have HZ := Lib.hid (And.intro hi (And.intro hz0 (And.intro hz1 hz2)))
  clear hr hok hi hz0 hz1 hz2
  unfold Cd.val
  go_enter Tryd.func45, Tryd.ntmps45
  go_wp2_with fail
  generalize hW : World.alloc (World.alloc w _) _ = W
  have hB : Below w.heap.size w W := by
    rw [← hW]
    go_grown
  have hS : W.heap.size = w.heap.size + 2 := by rw [← hW]; simp
  have hX : BoxAt W w.heap.size A c L d x := ⟨by omega, by
    rw [← hW]
    exact (cdBox_new w _ _ rfl A c L d x).below ((Below.refl _ _).alloc (Nat.le_refl _) _) (by simp)⟩
  have hM : CdMem W (w.heap.size + 1) (.slice none 0 0) (.slice none 0 0) (.int .i64 0) (.int .i64 0) (.int .i64 0) (.int .i64 0) := by
    rw [← hW]
    exact cdMem_new _ _ _ (by simp) _ _ _ _ _ _
  have HB0 := Lib.hid hB
  have HX0 := Lib.hid hX
  have HM0 := Lib.hid hM
  have HXd := Lib.hid (hX.next (below_drewn W))
  have HR0 := Lib.hid (HR.out.below hB)
  have hMt : Hid (w.heap.size + 1 < W.heap.size) := Lib.hid (by omega)
  have hle : Hid (w.heap.size ≤ W.heap.size) := Lib.hid (by omega)
  have HPRE := Lib.hid trivial
  clear hW hB hX hM hS
  go_region_held3 (fun w' => w'.cell? ⟨w.heap.size, 0, none⟩ = some (.slice A x.els.length c) ∧ w'.cell? ⟨w.heap.size, 1, none⟩ = some (.slice L x.lims.length d) ∧ w'.cell? ⟨w.heap.size, 2, none⟩ = some (.int .i64 x.rep) ∧ w'.cell? ⟨w.heap.size, 3, none⟩ = some (.int .i64 x.bon) ∧ w'.cell? ⟨w.heap.size, 4, none⟩ = some (.int .i64 x.kee) ∧ w'.cell? ⟨w.heap.size, 5, none⟩ = some (.int .i64 x.fal))
    (first | (with_reducible exact box1' HXd.out) | (with_reducible exact box1' (HX0.out.next (below_adn W _))) | (with_reducible exact box1' HX1.out) | (with_reducible exact box1' HX2.out) | (with_reducible exact box1' (HX2.out.six' (w.heap.size + 1) (by omega) _ _ _ _ _ _)))
    (first
      | (go_at_call 74; refine (l1Own_any L d x.lims _ HR1.out.lims hl2 hp2).mono ?_; rintro e w2 ⟨gL, cL, rfl, ho, hl1', hl2', hb⟩; have HX2 := Lib.hid (HX1.out.next hb); have HM2 := Lib.hid (HM1.out.below hb (Nat.lt_of_lt_of_le hMt.out HS1.out)); have HB2 := Lib.hid (Below_next HB1.out hb); have HE2 := Lib.hid (HE1.out.next HGE.out.2 hb); have HI2 := Lib.hid ho; have HQ := Lib.hid (And.intro hl1' (And.intro hl2' hb.size)); obtain ⟨m0, m1, m2, m3, m4, m5, mf⟩ := HM2.out; clear ho hb hl1' hl2')
      | (have hpre := HPRE; clear hpre HPRE; refine step_append_srcN _ (by rfl) (.tmp 3) (.tmp 5) 29 (by rfl) w.heap.size 72 i0 (.agg #[.string ⟨#[]⟩, .int .i64 0, .int .i64 0, .int .i64 0]) 4 40 (by decide) Tryd.underlying29 HZ.out.1 HZ.out.2.1 HZ.out.2.2.1 HZ.out.2.2.2 rfl (.slice (some ⟨W.heap.size, 0, none⟩) 0 0) 0 [] (by rfl) (owns_emptyN _ _ _ _ _ hle.out (heap_at_new W _ _ rfl)) A x.els.length c (x.els.flatMap Flat.cells) (by rfl) (flat_len _) (el_src HR0.out.els (below_adn W _)) (el_one _) (by unfold maxLen; omega) (by omega) (by simp; have := hle.out; omega) ?_; intro v1 w1 hown1 hgrow1 hat1; rw [Nat.zero_add, List.nil_append] at hown1; obtain ⟨gE, cE, rfl, hgE1, hgE2⟩ := row_pos hown1 hp1; have HE1 := Lib.hid (own_of_row (α := El) (cap := cE) (e := 72) (base := w.heap.size) x.els hown1); have hbW := Below.grown (below_adn W _) hgrow1 (by simp) (fun kk e => by simp [Value.ownBlock] at e; omega); have HX1 := Lib.hid (HX0.out.next hbW); have HM1 := Lib.hid (HM0.out.below hbW hMt.out); have HR1 := Lib.hid (HR0.out.below hbW); have HB1 := Lib.hid (Below_next HB0.out hbW); have HS1 := Lib.hid hbW.size; have HGE := Lib.hid (And.intro hgE1 hgE2); have HAT := Lib.hid hat1; clear hown1 hgrow1 hat1 hbW hgE1 hgE2)
      | fail)
  go_wp2
  refine stop_body ⟨?_⟩
  intro w8 hw8
  have hm8 := HM2.out.all (.slice (some ⟨gE, 0, none⟩) x.els.length cE) (.slice (some ⟨gL, 0, none⟩) x.lims.length cL) (.int .i64 x.rep) (.int .i64 x.bon) (.int .i64 x.kee) (.int .i64 x.fal)
  have hk8 := only_six w2 (w.heap.size + 1) (.slice (some ⟨gE, 0, none⟩) x.els.length cE) (.slice (some ⟨gL, 0, none⟩) x.lims.length cL) (.int .i64 x.rep) (.int .i64 x.bon) (.int .i64 x.kee) (.int .i64 x.fal)
  rw [show put6 w2 (w.heap.size + 1) (.slice (some ⟨gE, 0, none⟩) x.els.length cE) (.slice (some ⟨gL, 0, none⟩) x.lims.length cL) (.int .i64 x.rep) (.int .i64 x.bon) (.int .i64 x.kee) (.int .i64 x.fal) = w8 from hw8.symm] at hm8 hk8
  have HK8 := Lib.hid hk8
  clear hw8 hk8 m0 m1 m2 m3 m4 m5 mf
  obtain ⟨m0, m1, m2, m3, m4, m5, mf⟩ := hm8
  refine bodyPost_ret (v := .agg #[.slice (some ⟨gE, 0, none⟩) x.els.length cE, .slice (some ⟨gL, 0, none⟩) x.lims.length cL, .int .i64 x.rep, .int .i64 x.bon, .int .i64 x.kee, .int .i64 x.fal]) (by simp [results, Tryd.results45, go_sem, m0, m1, m2, m3, m4, m5]) rfl ?_
  obtain ⟨q1, q2, q3⟩ := HQ.out
  obtain ⟨q4, q5⟩ := HGE.out
  have q6 := HS1.out
  have q7 := hMt.out
  have hge : gE ≠ w.heap.size + 1 := by
    rcases HAT.out with h | h
    · have h' : gE = W.heap.size := by simpa [Value.ownBlock] using h
      omega
    · have h' : gE = (W.alloc (Obj.cells #[] 72)).drew.heap.size := by simpa [Value.ownBlock] using h
      have h2 : (W.alloc (Obj.cells #[] 72)).drew.heap.size = W.heap.size + 1 := by simp
      omega
  exact ⟨gE, cE, gL, cL, rfl, ⟨HE2.out.block (HK8.out.block gE (by omega) hge), HI2.out.block (HK8.out.block gL q2 (by omega)), q4, by omega, Nat.lt_of_lt_of_le (by omega) HK8.out.size, Nat.lt_of_lt_of_le q2 HK8.out.size, by omega⟩, HB2.out.trans (HK8.out.below HB2.out.size (fun k hk => by omega))⟩
end Go.Proofs.YtnmnenbmiealbaaDoor
