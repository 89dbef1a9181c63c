/- The records of a history, in the program: the walk. -/
import Derived.Test.YthbkfekbpjkhnaaHiF
import Derived.Test.YthbkfekbpjkhnaaPgNc
import Derived.Deep.RegionHeld3
namespace Go.Proofs.Ythbkfekbpjkhnaa
open Go.ChangeShapes Go.WideShapes Go.ChangeAt Go.RowKit Go.Lib Go.Proofs
set_option linter.unusedVariables false
attribute [local go_sem] undef

set_option maxHeartbeats 4000000 in
set_option maxRecDepth 100000 in
theorem recordsOf_w (P : Option Addr) (c : Nat) (xs : List Im) (A : Option Addr) (ch : Nat) (hs : List Cg) (w : World) (hr : Ims w w.heap.size P xs) (hl : ImsFits xs) (hg : Lst w w.heap.size A hs) (hgl : hs.length ≤ 1048577) (hcap : hs.length ≤ ch ∧ ch ≤ 9223372036854775807) :
    Calls Try.prog 48 #[.slice P xs.length c, .slice A hs.length ch] w fun e w' => (∃ R d rs, e = .returned (.tuple #[.slice R rs.length d, .bool (pB (HiOk xs hs))]) ∧ Lst w' w'.heap.size R rs ∧ (HiOk xs hs → rs = rcTo xs hs hs.length) ∧ (¬ HiOk xs hs → rs = [])) ∧ Below w.heap.size w w' := by
  have HA := Lib.hid (iAreItems_any P c xs w hr hl)
  have HR := Lib.hid hr
  have HF := Lib.hid hl
  have HG := Lib.hid hg
  have hca1 := hcap.1
  have hca2 := hcap.2
  clear hr hl hg hcap
  by_cases hok : ListOk xs
  rotate_left
  · rw [pB_no hok] at HA
    have hn : ¬ HiOk xs hs := fun h => hok h.1
    have HV := Lib.hid hn
    rw [pB_no hn]
    clear hok hn
    go_enter Try.func48, Try.ntmps48
    go_wp2_with fail
    refine HA.out.mono ?_
    rintro e w1 ⟨rfl, hb1⟩
    have HB1 := Lib.hid hb1
    clear hb1 HA
    go_wp2
    go_returns
    exact ⟨⟨none, 0, [], rfl, Lst.nil _ _ _, fun h => absurd h HV.out, fun _ => rfl⟩, HB1.out⟩
  rw [pB_yes hok] at HA
  by_cases h60 : hs.length ≤ 60
  rotate_left
  · have hn : ¬ HiOk xs hs := fun h => h60 h.2.few
    have HV := Lib.hid hn
    rw [pB_no hn]
    have h61 : (60 : Int) < (hs.length : Int) := by omega
    clear hok hn h60
    go_enter Try.func48, Try.ntmps48
    go_wp2_with fail
    refine HA.out.mono ?_
    rintro e w1 ⟨rfl, hb1⟩
    have HB1 := Lib.hid hb1
    clear hb1 HA
    go_wp2
    go_returns
    exact ⟨⟨none, 0, [], rfl, Lst.nil _ _ _, fun h => absurd h HV.out, fun _ => rfl⟩, HB1.out⟩
  obtain ⟨i0, hi, hz0, hz1, hz2⟩ := info_parts Try.infoRc
  have HZ := Lib.hid (And.intro hi (And.intro hz0 (And.intro hz1 hz2)))
  have HK := Lib.hid hok
  have h61 : (hs.length : Int) ≤ 60 := by omega
  clear hok hi hz0 hz1 hz2
  go_enter Try.func48, Try.ntmps48
  go_wp2_with fail
  refine HA.out.mono ?_
  rintro e w1 ⟨rfl, hb1⟩
  have HB1 := Lib.hid hb1
  have HR1 := Lib.hid (HR.out.next hb1)
  have HG1 := Lib.hid ((HG.out.below hb1 (Nat.le_refl _)).up hb1.size)
  clear hb1 HA
  go_wp2_with fail
  go_loopw [6, 20] (fun v q wr => ∃ k : Nat, k ≤ hs.length ∧ q = .int .i64 k ∧ Hid (PreOk xs hs k) ∧ Hid (wr.ownsRow w1.heap.size 98 8 v k ((rcTo xs hs k).flatMap Flat.cells)) ∧ Hid (Below w1.heap.size w1 wr)) (fun _ q _ => hs.length - (intOf q).toNat)
  case atStart => exact ⟨0, Nat.zero_le _, rfl, Lib.hid (PreOk.zero _ _), Lib.hid ⟨rfl, .inl ⟨rfl, rfl⟩⟩, Lib.hid (Below.refl _ _)⟩
  case round =>
    obtain ⟨k, hk, rfl, HP, HO, HB⟩ := hrel
    by_cases hlt : k < hs.length
    · have HGr := Lib.hid ((HG1.out.below HB.out (Nat.le_refl _)).up HB.out.size)
      have HRr := Lib.hid (HR1.out.next HB.out)
      obtain ⟨b, o, hA, hbl, hcc⟩ := HGr.out.cg (by omega)
      obtain ⟨c0, c1, c2, c3, c4, c5⟩ := hcc k hlt
      have HCC := Lib.hid (And.intro hbl hcc)
      have HAA := Lib.hid hA
      have HGA := Lib.hid HGr.out
      rw [hA] at HGA
      rw [hA]
      have hi1 : (0 : Int) ≤ (k : Int) := by omega
      have hi2 : (k : Int) < (hs.length : Int) := by omega
      clear hcc hbl hA
      go_wp2_with fail
      clear c0 c1 c2 c3 c4 c5
      have hb3 := below_alloc wr ((it hs k).obj 50)
      have hx3 := cgBx_new wr (it hs k) 50
      have hs3 : (wr.alloc ((it hs k).obj 50)).heap.size = wr.heap.size + 1 := by simp
      unfold Cg.obj at hb3 hx3 hs3
      generalize World.alloc wr _ = w3 at hb3 hx3 hs3 ⊢
      have hd3 := below_drew w3
      have HB3 := Lib.hid (below_next hb3 hd3)
      have HX3 := Lib.hid (hx3.below hd3 (by omega))
      have HR3 := Lib.hid (HRr.out.next (below_next hb3 hd3))
      have HO3 := Lib.hid (own_next HO.out (below_next hb3 hd3))
      have hs3' : w3.drew.heap.size = wr.heap.size + 1 := hs3
      have HIC := Lib.hid (isChange_any P c xs (it hs k) w3.drew HR3.out HF.out)
      clear hb3 hx3 hs3 hd3
      by_cases hic : IcOk xs (it hs k)
      rotate_left
      · rw [pB_no hic] at HIC
        have hn : ¬ HiOk xs hs := fun h => hic (h.ic hlt)
        have HV := Lib.hid hn
        clear hic hn
        refine wp_region_held_drew (S := (fun w' => w'.cell? ⟨wr.heap.size, 0, none⟩ = some (.int .i64 (it hs k).tick) ∧ w'.cell? ⟨wr.heap.size, 1, none⟩ = some (.int .i64 (it hs k).caller) ∧ w'.cell? ⟨wr.heap.size, 2, none⟩ = some (.int .i64 (it hs k).item) ∧ w'.cell? ⟨wr.heap.size, 3, none⟩ = some (.int .i64 (it hs k).name) ∧ w'.cell? ⟨wr.heap.size, 4, none⟩ = some (.int .i64 (it hs k).mark) ∧ w'.cell? ⟨wr.heap.size, 5, none⟩ = some (.bool (it hs k).review))) (by kernel_rfl) ?_ (fun hHeld0 => ?_)
        · ((try dsimp only); exact HX3.out.all)
        refine wpAnyH_take (i := 0) (oi := _) (v := ?_) rfl (by kernel_rfl) (by kernel_rfl) (by kernel_rfl) (fun _ _ _ h => h) (Or.inl ⟨by rfl, ?_⟩) (by assumption) ?_
        rotate_left
        · (intro w hSw; (try dsimp only at hSw); go_simp; try with_reducible rfl)
        try simp only [Act.put, List.setIfInBounds_toArray, List.set_cons_zero, List.set_cons_succ, List.getElem_toArray, List.getElem_cons_zero]
        refine wpAnyH_take (i := 1) (oi := _) (v := ?_) rfl (by kernel_rfl) (by kernel_rfl) (by kernel_rfl) (fun _ _ _ h => h) (Or.inl ⟨by rfl, ?_⟩) (by assumption) ?_
        rotate_left
        · (intro w hSw; (try dsimp only at hSw); go_simp; try with_reducible rfl)
        try simp only [Act.put, List.setIfInBounds_toArray, List.set_cons_zero, List.set_cons_succ, List.getElem_toArray, List.getElem_cons_zero, List.getElem_cons_succ]
        refine wpAnyH_ready (rs := [2]) (by kernel_rfl) (by simp) ?_
        refine AllReadyH.cons rfl (fun K hK => ?_) ?_
        rotate_left
        · exact AllReadyH.nil
        go_simp
        go_wp2_with (go_at_call 75; refine HIC.out.mono ?_; rintro e w4 ⟨rfl, hb4⟩; have hs4 := Nat.lt_of_lt_of_le (show wr.heap.size < w3.drew.heap.size by omega) hb4.size; have HB4 := Lib.hid (below_next HB3.out hb4); have HX4 := Lib.hid (HX3.out.below hb4 (by omega)); clear hb4)
        refine hK.out _ _ ?_ (fun hHeld1 => ?_)
        · ((try dsimp only); exact HX4.out.all)
        clear hK K
        refine wpAnyH_take (i := 3) (oi := _) (v := ?_) rfl (by kernel_rfl) (by kernel_rfl) (by kernel_rfl) (fun _ _ _ h => h) (Or.inl ⟨by rfl, ?_⟩) (by assumption) ?_
        rotate_left
        · (intro w hSw; (try dsimp only at hSw); go_simp; try with_reducible rfl)
        try simp only [Act.put, List.setIfInBounds_toArray, List.set_cons_zero, List.set_cons_succ, List.getElem_toArray, List.getElem_cons_zero, List.getElem_cons_succ]
        refine wpAnyH_take (i := 4) (oi := _) (v := ?_) rfl (by kernel_rfl) (by kernel_rfl) (by kernel_rfl) (fun _ _ _ h => h) (Or.inl ⟨by rfl, ?_⟩) (by assumption) ?_
        rotate_left
        · (intro w hSw; (try dsimp only at hSw); go_simp; try with_reducible rfl)
        try simp only [Act.put, List.setIfInBounds_toArray, List.set_cons_zero, List.set_cons_succ, List.getElem_toArray, List.getElem_cons_zero, List.getElem_cons_succ]
        refine wpAnyH_take (i := 5) (oi := _) (v := undef) rfl (by kernel_rfl) (by kernel_rfl) (by kernel_rfl) (fun _ _ _ h => h) (Or.inr ⟨by rfl, rfl⟩) (by assumption) ?_
        try simp only [Act.put, List.setIfInBounds_toArray, List.set_cons_zero, List.set_cons_succ, List.getElem_toArray, List.getElem_cons_zero, List.getElem_cons_succ]
        refine wpAnyH_take (i := 6) (oi := _) (v := undef) rfl (by kernel_rfl) (by kernel_rfl) (by kernel_rfl) (fun _ _ _ h => h) (Or.inr ⟨by rfl, rfl⟩) (by assumption) ?_
        try simp only [Act.put, List.setIfInBounds_toArray, List.set_cons_zero, List.set_cons_succ, List.getElem_toArray, List.getElem_cons_zero, List.getElem_cons_succ]
        refine wpAnyH_take (i := 7) (oi := _) (v := undef) rfl (by kernel_rfl) (by kernel_rfl) (by kernel_rfl) (fun _ _ _ h => h) (Or.inr ⟨by rfl, rfl⟩) (by assumption) ?_
        try simp only [Act.put, List.setIfInBounds_toArray, List.set_cons_zero, List.set_cons_succ, List.getElem_toArray, List.getElem_cons_zero, List.getElem_cons_succ]
        refine wpAnyH_take (i := 8) (oi := _) (v := undef) rfl (by kernel_rfl) (by kernel_rfl) (by kernel_rfl) (fun _ _ _ h => h) (Or.inr ⟨by rfl, rfl⟩) (by assumption) ?_
        try simp only [Act.put, List.setIfInBounds_toArray, List.set_cons_zero, List.set_cons_succ, List.getElem_toArray, List.getElem_cons_zero, List.getElem_cons_succ]
        refine wpAnyH_take (i := 9) (oi := _) (v := undef) rfl (by kernel_rfl) (by kernel_rfl) (by kernel_rfl) (fun _ _ _ h => h) (Or.inr ⟨by rfl, rfl⟩) (by assumption) ?_
        try simp only [Act.put, List.setIfInBounds_toArray, List.set_cons_zero, List.set_cons_succ, List.getElem_toArray, List.getElem_cons_zero, List.getElem_cons_succ]
        refine wpAnyH_take (i := 10) (oi := _) (v := undef) rfl (by kernel_rfl) (by kernel_rfl) (by kernel_rfl) (fun _ _ _ h => h) (Or.inr ⟨by rfl, rfl⟩) (by assumption) ?_
        try simp only [Act.put, List.setIfInBounds_toArray, List.set_cons_zero, List.set_cons_succ, List.getElem_toArray, List.getElem_cons_zero, List.getElem_cons_succ]
        refine wpAnyH_take (i := 11) (oi := _) (v := undef) rfl (by kernel_rfl) (by kernel_rfl) (by kernel_rfl) (fun _ _ _ h => h) (Or.inr ⟨by rfl, rfl⟩) (by assumption) ?_
        try simp only [Act.put, List.setIfInBounds_toArray, List.set_cons_zero, List.set_cons_succ, List.getElem_toArray, List.getElem_cons_zero, List.getElem_cons_succ]
        refine wpAnyH_take (i := 12) (oi := _) (v := undef) rfl (by kernel_rfl) (by kernel_rfl) (by kernel_rfl) (fun _ _ _ h => h) (Or.inr ⟨by rfl, rfl⟩) (by assumption) ?_
        try simp only [Act.put, List.setIfInBounds_toArray, List.set_cons_zero, List.set_cons_succ, List.getElem_toArray, List.getElem_cons_zero, List.getElem_cons_succ]
        refine wpAnyH_take (i := 13) (oi := _) (v := undef) rfl (by kernel_rfl) (by kernel_rfl) (by kernel_rfl) (fun _ _ _ h => h) (Or.inr ⟨by rfl, rfl⟩) (by assumption) ?_
        try simp only [Act.put, List.setIfInBounds_toArray, List.set_cons_zero, List.set_cons_succ, List.getElem_toArray, List.getElem_cons_zero, List.getElem_cons_succ]
        refine wpAnyH_take (i := 14) (oi := _) (v := undef) rfl (by kernel_rfl) (by kernel_rfl) (by kernel_rfl) (fun _ _ _ h => h) (Or.inr ⟨by rfl, rfl⟩) (by assumption) ?_
        try simp only [Act.put, List.setIfInBounds_toArray, List.set_cons_zero, List.set_cons_succ, List.getElem_toArray, List.getElem_cons_zero, List.getElem_cons_succ]
        refine wpAnyH_take (i := 15) (oi := _) (v := undef) rfl (by kernel_rfl) (by kernel_rfl) (by kernel_rfl) (fun _ _ _ h => h) (Or.inr ⟨by rfl, rfl⟩) (by assumption) ?_
        try simp only [Act.put, List.setIfInBounds_toArray, List.set_cons_zero, List.set_cons_succ, List.getElem_toArray, List.getElem_cons_zero, List.getElem_cons_succ]
        refine wpAnyH_take (i := 16) (oi := _) (v := undef) rfl (by kernel_rfl) (by kernel_rfl) (by kernel_rfl) (fun _ _ _ h => h) (Or.inr ⟨by rfl, rfl⟩) (by assumption) ?_
        try simp only [Act.put, List.setIfInBounds_toArray, List.set_cons_zero, List.set_cons_succ, List.getElem_toArray, List.getElem_cons_zero, List.getElem_cons_succ]
        refine wpAnyH_take (i := 17) (oi := _) (v := undef) rfl (by kernel_rfl) (by kernel_rfl) (by kernel_rfl) (fun _ _ _ h => h) (Or.inr ⟨by rfl, rfl⟩) (by assumption) ?_
        try simp only [Act.put, List.setIfInBounds_toArray, List.set_cons_zero, List.set_cons_succ, List.getElem_toArray, List.getElem_cons_zero, List.getElem_cons_succ]
        refine wpAnyH_take (i := 18) (oi := _) (v := ?_) rfl (by kernel_rfl) (by kernel_rfl) (by kernel_rfl) (fun _ _ _ h => h) (Or.inl ⟨by rfl, ?_⟩) (by assumption) ?_
        rotate_left
        · (intro w hSw; (try dsimp only at hSw); go_simp; try with_reducible rfl)
        try simp only [Act.put, List.setIfInBounds_toArray, List.set_cons_zero, List.set_cons_succ, List.getElem_toArray, List.getElem_cons_zero, List.getElem_cons_succ]
        refine wpAnyH_done (by kernel_rfl) ?_ _
        go_wp2
        go_returns
        exact ⟨⟨none, 0, [], by rw [pB_no HV.out]; rfl, Lst.nil _ _ _, fun h => absurd h HV.out, fun _ => rfl⟩, Below_next HB1.out (Below_next HB.out HB4.out)⟩
      rw [pB_yes hic] at HIC
      have HIK := Lib.hid hic
      clear hic
      rcases k with _ | m
      · have e0 : (((0 : Nat) : Nat) : Int) = 0 := rfl
        rw [e0]
        refine wp_region_held_drew (S := (fun w' => w'.cell? ⟨wr.heap.size, 0, none⟩ = some (.int .i64 (it hs 0).tick) ∧ w'.cell? ⟨wr.heap.size, 1, none⟩ = some (.int .i64 (it hs 0).caller) ∧ w'.cell? ⟨wr.heap.size, 2, none⟩ = some (.int .i64 (it hs 0).item) ∧ w'.cell? ⟨wr.heap.size, 3, none⟩ = some (.int .i64 (it hs 0).name) ∧ w'.cell? ⟨wr.heap.size, 4, none⟩ = some (.int .i64 (it hs 0).mark) ∧ w'.cell? ⟨wr.heap.size, 5, none⟩ = some (.bool (it hs 0).review))) (by kernel_rfl) ?_ (fun hHeld0 => ?_)
        · ((try dsimp only); exact HX3.out.all)
        refine wpAnyH_take (i := 0) (oi := _) (v := ?_) rfl (by kernel_rfl) (by kernel_rfl) (by kernel_rfl) (fun _ _ _ h => h) (Or.inl ⟨by rfl, ?_⟩) (by assumption) ?_
        rotate_left
        · (intro w hSw; (try dsimp only at hSw); go_simp; try with_reducible rfl)
        try simp only [Act.put, List.setIfInBounds_toArray, List.set_cons_zero, List.set_cons_succ, List.getElem_toArray, List.getElem_cons_zero]
        refine wpAnyH_take (i := 1) (oi := _) (v := ?_) rfl (by kernel_rfl) (by kernel_rfl) (by kernel_rfl) (fun _ _ _ h => h) (Or.inl ⟨by rfl, ?_⟩) (by assumption) ?_
        rotate_left
        · (intro w hSw; (try dsimp only at hSw); go_simp; try with_reducible rfl)
        try simp only [Act.put, List.setIfInBounds_toArray, List.set_cons_zero, List.set_cons_succ, List.getElem_toArray, List.getElem_cons_zero, List.getElem_cons_succ]
        refine wpAnyH_ready (rs := [2]) (by kernel_rfl) (by simp) ?_
        refine AllReadyH.cons rfl (fun K hK => ?_) ?_
        rotate_left
        · exact AllReadyH.nil
        go_simp
        go_wp2_with (go_at_call 75; refine HIC.out.mono ?_; rintro e w4 ⟨rfl, hb4⟩; have hs4 := Nat.lt_of_lt_of_le (show wr.heap.size < w3.drew.heap.size by omega) hb4.size; have HB4 := Lib.hid (below_next HB3.out hb4); have HX4 := Lib.hid (HX3.out.below hb4 (by omega)); clear hb4)
        refine hK.out _ _ ?_ (fun hHeld1 => ?_)
        · ((try dsimp only); exact HX4.out.all)
        clear hK K
        refine wpAnyH_take (i := 3) (oi := _) (v := ?_) rfl (by kernel_rfl) (by kernel_rfl) (by kernel_rfl) (fun _ _ _ h => h) (Or.inl ⟨by rfl, ?_⟩) (by assumption) ?_
        rotate_left
        · (intro w hSw; (try dsimp only at hSw); go_simp; try with_reducible rfl)
        try simp only [Act.put, List.setIfInBounds_toArray, List.set_cons_zero, List.set_cons_succ, List.getElem_toArray, List.getElem_cons_zero, List.getElem_cons_succ]
        refine wpAnyH_take (i := 4) (oi := _) (v := ?_) rfl (by kernel_rfl) (by kernel_rfl) (by kernel_rfl) (fun _ _ _ h => h) (Or.inl ⟨by rfl, ?_⟩) (by assumption) ?_
        rotate_left
        · (intro w hSw; (try dsimp only at hSw); go_simp; try with_reducible rfl)
        try simp only [Act.put, List.setIfInBounds_toArray, List.set_cons_zero, List.set_cons_succ, List.getElem_toArray, List.getElem_cons_zero, List.getElem_cons_succ]
        refine wpAnyH_take (i := 5) (oi := _) (v := ?_) rfl (by kernel_rfl) (by kernel_rfl) (by kernel_rfl) (fun _ _ _ h => h) (Or.inl ⟨by rfl, ?_⟩) (by assumption) ?_
        rotate_left
        · (intro w hSw; (try dsimp only at hSw); go_simp; try with_reducible rfl)
        try simp only [Act.put, List.setIfInBounds_toArray, List.set_cons_zero, List.set_cons_succ, List.getElem_toArray, List.getElem_cons_zero, List.getElem_cons_succ]
        refine wpAnyH_take (i := 6) (oi := _) (v := ?_) rfl (by kernel_rfl) (by kernel_rfl) (by kernel_rfl) (fun _ _ _ h => h) (Or.inl ⟨by rfl, ?_⟩) (by assumption) ?_
        rotate_left
        · (intro w hSw; (try dsimp only at hSw); go_simp; try with_reducible rfl)
        try simp only [Act.put, List.setIfInBounds_toArray, List.set_cons_zero, List.set_cons_succ, List.getElem_toArray, List.getElem_cons_zero, List.getElem_cons_succ]
        refine wpAnyH_take (i := 7) (oi := _) (v := ?_) rfl (by kernel_rfl) (by kernel_rfl) (by kernel_rfl) (fun _ _ _ h => h) (Or.inl ⟨by rfl, ?_⟩) (by assumption) ?_
        rotate_left
        · (intro w hSw; (try dsimp only at hSw); go_simp; try with_reducible rfl)
        try simp only [Act.put, List.setIfInBounds_toArray, List.set_cons_zero, List.set_cons_succ, List.getElem_toArray, List.getElem_cons_zero, List.getElem_cons_succ]
        refine wpAnyH_take (i := 8) (oi := _) (v := undef) rfl (by kernel_rfl) (by kernel_rfl) (by kernel_rfl) (fun _ _ _ h => h) (Or.inr ⟨by rfl, rfl⟩) (by assumption) ?_
        try simp only [Act.put, List.setIfInBounds_toArray, List.set_cons_zero, List.set_cons_succ, List.getElem_toArray, List.getElem_cons_zero, List.getElem_cons_succ]
        refine wpAnyH_take (i := 9) (oi := _) (v := undef) rfl (by kernel_rfl) (by kernel_rfl) (by kernel_rfl) (fun _ _ _ h => h) (Or.inr ⟨by rfl, rfl⟩) (by assumption) ?_
        try simp only [Act.put, List.setIfInBounds_toArray, List.set_cons_zero, List.set_cons_succ, List.getElem_toArray, List.getElem_cons_zero, List.getElem_cons_succ]
        refine wpAnyH_take (i := 10) (oi := _) (v := undef) rfl (by kernel_rfl) (by kernel_rfl) (by kernel_rfl) (fun _ _ _ h => h) (Or.inr ⟨by rfl, rfl⟩) (by assumption) ?_
        try simp only [Act.put, List.setIfInBounds_toArray, List.set_cons_zero, List.set_cons_succ, List.getElem_toArray, List.getElem_cons_zero, List.getElem_cons_succ]
        refine wpAnyH_take (i := 11) (oi := _) (v := undef) rfl (by kernel_rfl) (by kernel_rfl) (by kernel_rfl) (fun _ _ _ h => h) (Or.inr ⟨by rfl, rfl⟩) (by assumption) ?_
        try simp only [Act.put, List.setIfInBounds_toArray, List.set_cons_zero, List.set_cons_succ, List.getElem_toArray, List.getElem_cons_zero, List.getElem_cons_succ]
        refine wpAnyH_take (i := 12) (oi := _) (v := undef) rfl (by kernel_rfl) (by kernel_rfl) (by kernel_rfl) (fun _ _ _ h => h) (Or.inr ⟨by rfl, rfl⟩) (by assumption) ?_
        try simp only [Act.put, List.setIfInBounds_toArray, List.set_cons_zero, List.set_cons_succ, List.getElem_toArray, List.getElem_cons_zero, List.getElem_cons_succ]
        refine wpAnyH_take (i := 13) (oi := _) (v := undef) rfl (by kernel_rfl) (by kernel_rfl) (by kernel_rfl) (fun _ _ _ h => h) (Or.inr ⟨by rfl, rfl⟩) (by assumption) ?_
        try simp only [Act.put, List.setIfInBounds_toArray, List.set_cons_zero, List.set_cons_succ, List.getElem_toArray, List.getElem_cons_zero, List.getElem_cons_succ]
        refine wpAnyH_take (i := 14) (oi := _) (v := undef) rfl (by kernel_rfl) (by kernel_rfl) (by kernel_rfl) (fun _ _ _ h => h) (Or.inr ⟨by rfl, rfl⟩) (by assumption) ?_
        try simp only [Act.put, List.setIfInBounds_toArray, List.set_cons_zero, List.set_cons_succ, List.getElem_toArray, List.getElem_cons_zero, List.getElem_cons_succ]
        refine wpAnyH_take (i := 15) (oi := _) (v := undef) rfl (by kernel_rfl) (by kernel_rfl) (by kernel_rfl) (fun _ _ _ h => h) (Or.inr ⟨by rfl, rfl⟩) (by assumption) ?_
        try simp only [Act.put, List.setIfInBounds_toArray, List.set_cons_zero, List.set_cons_succ, List.getElem_toArray, List.getElem_cons_zero, List.getElem_cons_succ]
        refine wpAnyH_take (i := 16) (oi := _) (v := undef) rfl (by kernel_rfl) (by kernel_rfl) (by kernel_rfl) (fun _ _ _ h => h) (Or.inr ⟨by rfl, rfl⟩) (by assumption) ?_
        try simp only [Act.put, List.setIfInBounds_toArray, List.set_cons_zero, List.set_cons_succ, List.getElem_toArray, List.getElem_cons_zero, List.getElem_cons_succ]
        refine wpAnyH_take (i := 17) (oi := _) (v := ?_) rfl (by kernel_rfl) (by kernel_rfl) (by kernel_rfl) (fun _ _ _ h => h) (Or.inl ⟨by rfl, ?_⟩) (by assumption) ?_
        rotate_left
        · (intro w hSw; (try dsimp only at hSw); go_simp; try with_reducible rfl)
        try simp only [Act.put, List.setIfInBounds_toArray, List.set_cons_zero, List.set_cons_succ, List.getElem_toArray, List.getElem_cons_zero, List.getElem_cons_succ]
        refine wpAnyH_take (i := 18) (oi := _) (v := ?_) rfl (by kernel_rfl) (by kernel_rfl) (by kernel_rfl) (fun _ _ _ h => h) (Or.inl ⟨by rfl, ?_⟩) (by assumption) ?_
        rotate_left
        · (intro w hSw; (try dsimp only at hSw); go_simp; try with_reducible rfl)
        try simp only [Act.put, List.setIfInBounds_toArray, List.set_cons_zero, List.set_cons_succ, List.getElem_toArray, List.getElem_cons_zero, List.getElem_cons_succ]
        refine wpAnyH_done (by kernel_rfl) ?_ _
        obtain ⟨rc, hrc⟩ : ∃ rc, rc = rcB xs (hs.take 0) (it hs 0) := ⟨_, rfl⟩
        have HRB := Lib.hid (fun W (h1 : Ims W W.heap.size P xs) (h2 : Lst W W.heap.size (some ⟨b, o, none⟩) hs) => recordBehind_at P c xs (some ⟨b, o, none⟩) ch hs 0 W h1 HF.out HK.out h2 hlt h60 HIK.out)
        rw [← hrc] at HRB
        unfold Rc.val Cg.val at HRB
        have HRC := Lib.hid hrc
        have hd4 := below_drew w4
        have HB5 := Lib.hid (below_next HB4.out hd4)
        have HX5 := Lib.hid (HX4.out.below hd4 hs4)
        have hs5 : wr.heap.size < w4.drew.heap.size := hs4
        clear hrc hd4
        go_wp2_with fail
        refine wp_region_held_drew (S := (fun w' => w'.cell? ⟨wr.heap.size, 0, none⟩ = some (.int .i64 (it hs 0).tick) ∧ w'.cell? ⟨wr.heap.size, 1, none⟩ = some (.int .i64 (it hs 0).caller) ∧ w'.cell? ⟨wr.heap.size, 2, none⟩ = some (.int .i64 (it hs 0).item) ∧ w'.cell? ⟨wr.heap.size, 3, none⟩ = some (.int .i64 (it hs 0).name) ∧ w'.cell? ⟨wr.heap.size, 4, none⟩ = some (.int .i64 (it hs 0).mark) ∧ w'.cell? ⟨wr.heap.size, 5, none⟩ = some (.bool (it hs 0).review))) (by kernel_rfl) ?_ (fun hHeld0 => ?_)
        · exact HX5.out.all
        refine wpAnyH_take (i := 0) (oi := _) (v := ?_) rfl (by kernel_rfl) (by kernel_rfl) (by kernel_rfl) (fun _ _ _ h => h) (Or.inl ⟨by rfl, ?_⟩) (by assumption) ?_
        rotate_left
        · (intro w hSw; (try dsimp only at hSw); go_simp; try with_reducible rfl)
        try simp only [Act.put, List.setIfInBounds_toArray, List.set_cons_zero, List.set_cons_succ, List.getElem_toArray, List.getElem_cons_zero]
        refine wpAnyH_take (i := 1) (oi := _) (v := ?_) rfl (by kernel_rfl) (by kernel_rfl) (by kernel_rfl) (fun _ _ _ h => h) (Or.inl ⟨by rfl, ?_⟩) (by assumption) ?_
        rotate_left
        · (intro w hSw; (try dsimp only at hSw); go_simp; try with_reducible rfl)
        try simp only [Act.put, List.setIfInBounds_toArray, List.set_cons_zero, List.set_cons_succ, List.getElem_toArray, List.getElem_cons_zero, List.getElem_cons_succ]
        refine wpAnyH_take (i := 2) (oi := _) (v := ?_) rfl (by kernel_rfl) (by kernel_rfl) (by kernel_rfl) (fun _ _ _ h => h) (Or.inl ⟨by rfl, ?_⟩) (by assumption) ?_
        rotate_left
        · (intro w hSw; (try dsimp only at hSw); go_simp; try with_reducible rfl)
        try simp only [Act.put, List.setIfInBounds_toArray, List.set_cons_zero, List.set_cons_succ, List.getElem_toArray, List.getElem_cons_zero, List.getElem_cons_succ]
        refine wpAnyH_take (i := 3) (oi := _) (v := ?_) rfl (by kernel_rfl) (by kernel_rfl) (by kernel_rfl) (fun _ _ _ h => h) (Or.inl ⟨by rfl, ?_⟩) (by assumption) ?_
        rotate_left
        · (intro w hSw; (try dsimp only at hSw); go_simp; try with_reducible rfl)
        try simp only [Act.put, List.setIfInBounds_toArray, List.set_cons_zero, List.set_cons_succ, List.getElem_toArray, List.getElem_cons_zero, List.getElem_cons_succ]
        refine wpAnyH_take (i := 4) (oi := _) (v := ?_) rfl (by kernel_rfl) (by kernel_rfl) (by kernel_rfl) (fun _ _ _ h => h) (Or.inl ⟨by rfl, ?_⟩) (by assumption) ?_
        rotate_left
        · (intro w hSw; (try dsimp only at hSw); go_simp; try with_reducible rfl)
        try simp only [Act.put, List.setIfInBounds_toArray, List.set_cons_zero, List.set_cons_succ, List.getElem_toArray, List.getElem_cons_zero, List.getElem_cons_succ]
        refine wpAnyH_ready (rs := [5, 6]) (by kernel_rfl) (by simp) ?_
        refine AllReadyH.cons rfl (fun K hK => ?_) ?_
        · go_simp
          go_wp2_with (go_at_call 76; refine (HRB.out _ (HRr.out.next HB5.out) ((HGA.out.below HB5.out (Nat.le_refl _)).up HB5.out.size)).mono ?_; rintro e w6 ⟨rfl, hb6⟩; have hs6 := Nat.lt_of_lt_of_le hs5 hb6.size; have HB6 := Lib.hid (below_next HB5.out hb6); have HX6 := Lib.hid (HX5.out.below hb6 hs5); clear hb6)
          refine hK.out _ _ ?_ (fun hHeld1 => ?_)
          · exact HX6.out.all
          clear hK K
          refine wpAnyH_ready (rs := [6]) (by kernel_rfl) (by simp) ?_
          refine AllReadyH.cons rfl (fun K hK => ?_) ?_
          rotate_left
          · exact AllReadyH.nil
          go_simp
          refine hK.out _ _ ?_ (fun hHeld2 => ?_)
          · exact (HX6.out.below (below_alloc _ _) hs6).all
          clear hK K
          have HY := Lib.hid (rc_boxed w6 rc)
          refine wpAnyH_ready (rs := [7]) (by kernel_rfl) (by simp) ?_
          refine AllReadyH.cons rfl (fun K hK => ?_) ?_
          rotate_left
          · exact AllReadyH.nil
          go_simp
          refine hK.out _ _ ?_ (fun hHeld3 => ?_)
          · exact (HX6.out.below (below_alloc _ _) hs6).all
          clear hK K
          refine wpAnyH_done (by kernel_rfl) ?_ _
          generalize hw7 : World.alloc w6 _ = w7
          have HY7 : Hid (RcBx w7 w6.heap.size rc) := Lib.hid (by rw [← hw7]; exact rcBx_at (rcBx_new w6 rc _))
          have HB7 : Hid (Below wr.heap.size wr w7) := Lib.hid (by rw [← hw7]; exact below_next HB6.out (below_alloc _ _))
          have hs7 : w6.heap.size < w7.heap.size := by rw [← hw7]; simp
          clear hw7
          obtain ⟨y0, y1, y2, y3, y4, y5, y6, y7⟩ := HY7.out
          have HAL := Lib.hid (isAllowed_any rc)
          unfold Rc.val at HAL
          by_cases ha : rcAl rc = true
          rotate_left
          · have hn : ¬ HiOk xs hs := fun h => ha (by rw [HRC.out]; exact h.al hlt)
            have HV := Lib.hid hn
            rw [Bool.eq_false_iff.2 ha] at HAL
            clear ha hn
            go_wp2_with (go_at_call 77; refine (HAL.out _).mono ?_; rintro e w8 ⟨rfl, hb8⟩; have HB8 := Lib.hid (below_next HB7.out hb8); clear hb8)
            go_returns
            exact ⟨⟨none, 0, [], by rw [pB_no HV.out]; rfl, Lst.nil _ _ _, fun h => absurd h HV.out, fun _ => rfl⟩, Below_next HB1.out (Below_next HB.out HB8.out)⟩
          have HPS := Lib.hid (HP.out.step (by omega) HIK.out (fun h => absurd h (by omega)) (by rw [← HRC.out]; exact ha))
          rw [ha] at HAL
          clear ha
          go_wp2_with (first
            | (go_at_call 77; refine (HAL.out _).mono ?_; rintro e w8 ⟨rfl, hb8⟩; have HB8 := Lib.hid (below_next HB7.out hb8); clear y0 y1 y2 y3 y4 y5 y6 y7; obtain ⟨y0, y1, y2, y3, y4, y5, y6, y7⟩ := HY7.out.below hb8 hs7; have HOW := Lib.hid (own_next HO.out HB8.out); have hs8 := Nat.le_trans (Nat.le_trans HB.out.size HB8.out.size) (Nat.le_refl _); clear hb8)
            | (at_builtin; refine wpList_append_srcN _ rfl (.tmp 53) (.tmp 55) 70 rfl w1.heap.size 98 i0 (.agg #[.int .i64 0, .int .i64 0, .int .i64 0, .int .i64 0, .int .i64 0, .bool false, .int .i64 0, .bool false]) 8 64 (by decide) Try.underlying70 HZ.out.1 HZ.out.2.1 HZ.out.2.2.1 HZ.out.2.2.2 rfl _ 0 ((rcTo xs hs 0).flatMap Flat.cells) rfl (HOW.out.alloc _) (some ⟨w8.heap.size, 0, none⟩) 1 1 (Rc.cs rc) rfl rfl (fun _ => ⟨_, rfl, rc_news (rcBx_at (rcBx_new _ _ _))⟩) (rc_one _) (by unfold maxLen; omega) (by omega) (by simp; omega) ?_; intro v1 w9 hown hgrow hat; have HST := Lib.hid (rc_step HOW.out (Below_next HB.out HB8.out) HRC.out hown hgrow); clear hown hgrow hat))
          go_roundw
          case rel => exact ⟨0 + 1, by omega, by go_num, HPS, Lib.hid HST.out.1, Lib.hid HST.out.2⟩
          case measure => simp [intOf]; omega
        refine AllReadyH.cons rfl (fun K hK => ?_) ?_
        rotate_left
        · exact AllReadyH.nil
        go_simp
        refine hK.out _ _ ?_ (fun hHeld1 => ?_)
        · exact (HX5.out.below (below_alloc _ _) hs5).all
        clear hK K
        have hb6 : Below w4.drew.heap.size w4.drew (w4.alloc (.cells #[.int .i64 0, .int .i64 0, .int .i64 0, .int .i64 0, .int .i64 0, .bool false, .int .i64 0, .bool false] 98)).drew := below_alloc w4.drew (.cells #[.int .i64 0, .int .i64 0, .int .i64 0, .int .i64 0, .int .i64 0, .bool false, .int .i64 0, .bool false] 98)
        have HY6 : Hid (∀ w6, Below (w4.alloc (.cells #[.int .i64 0, .int .i64 0, .int .i64 0, .int .i64 0, .int .i64 0, .bool false, .int .i64 0, .bool false] 98)).drew.heap.size (w4.alloc (.cells #[.int .i64 0, .int .i64 0, .int .i64 0, .int .i64 0, .int .i64 0, .bool false, .int .i64 0, .bool false] 98)).drew w6 → RcBx (putAt w4.heap.size 0 w6 0 (Flat.cells rc)) w4.heap.size rc ∧ Below w4.drew.heap.size w4.drew (putAt w4.heap.size 0 w6 0 (Flat.cells rc))) := Lib.hid (fun w6 h => rc_boxed2 (w := w4.drew) (w6 := w6) rc h)
        have HO6 : Hid (RcOwn (w4.alloc (.cells #[.int .i64 0, .int .i64 0, .int .i64 0, .int .i64 0, .int .i64 0, .bool false, .int .i64 0, .bool false] 98)).drew w4.heap.size) := Lib.hid (⟨rcBx_new w4.drew default 98, by simp⟩ : RcOwn (w4.drew.alloc (.cells #[.int .i64 0, .int .i64 0, .int .i64 0, .int .i64 0, .int .i64 0, .bool false, .int .i64 0, .bool false] 98)) w4.drew.heap.size)
        generalize hw5 : (World.alloc w4 _).drew = w5 at hb6 HY6 HO6 ⊢
        clear hw5
        have HB6 := Lib.hid (below_next HB5.out hb6)
        have HX6 := Lib.hid (HX5.out.below hb6 hs5)
        have hs6 := Nat.lt_of_lt_of_le hs5 hb6.size
        clear hb6
        refine wpAnyH_ready (rs := [5]) (by kernel_rfl) (by simp) ?_
        refine AllReadyH.cons rfl (fun K hK => ?_) ?_
        rotate_left
        · exact AllReadyH.nil
        go_simp
        go_wp2_with (go_at_call 76; refine (HRB.out _ (HRr.out.next HB6.out) ((HGA.out.below HB6.out (Nat.le_refl _)).up HB6.out.size)).mono ?_; rintro e w6 ⟨rfl, hb7⟩; have HY7 := Lib.hid (HY6.out w6 hb7); have HO7 := Lib.hid (HO6.out.below hb7); have HX7 := Lib.hid (HX6.out.below hb7 hs6); clear hb7)
        refine hK.out _ _ ?_ (fun hHeld2 => ?_)
        · exact HX7.out.all
        clear hK K
        have hxy : wr.heap.size < w4.heap.size := hs5
        have HX8 := Lib.hid (HX7.out.keep ((putAt_only (S := fun q => q = w4.heap.size) rfl 0 (Flat.cells rc) _ _ 0 (Only.refl _ w6)).block wr.heap.size (Nat.lt_trans hxy HO7.out.lt) (fun e => by omega)))
        obtain ⟨u0, u1, u2, u3, u4x, u5x, u6x, u7x⟩ := HO7.out.cells
        have f0 := HO7.out.free 0 (by omega)
        have f1 := HO7.out.free 1 (by omega)
        have f2 := HO7.out.free 2 (by omega)
        have f3 := HO7.out.free 3 (by omega)
        have f4 := HO7.out.free 4 (by omega)
        have f5 := HO7.out.free 5 (by omega)
        have f6 := HO7.out.free 6 (by omega)
        have f7 := HO7.out.free 7 (by omega)
        refine wpAnyH_ready (rs := [7]) (by kernel_rfl) (by simp) ?_
        refine AllReadyH.cons rfl (fun K hK => ?_) ?_
        rotate_left
        · exact AllReadyH.nil
        go_simp
        refine hK.out _ _ ?_ (fun hHeld3 => ?_)
        · exact HX8.out.all
        clear hK K
        refine wpAnyH_done (by kernel_rfl) ?_ _
        generalize hw7 : (World.setCell (World.setCell (World.setCell (World.setCell (World.setCell (World.setCell (World.setCell (World.setCell w6 _ _) _ _) _ _) _ _) _ _) _ _) _ _) _ _) = w7
        have hy7 : RcBx w7 w4.heap.size rc ∧ Below wr.heap.size wr w7 ∧ w4.heap.size < w7.heap.size := by
          rw [← hw7]
          exact ⟨HY7.out.1, below_next HB5.out HY7.out.2, by have := HO7.out.lt; simpa [World.setCell] using this⟩
        have HY7 := Lib.hid hy7.1
        have HB7 := Lib.hid hy7.2.1
        have hs7 := hy7.2.2
        clear hw7 hy7 u0 u1 u2 u3 u4x u5x u6x u7x f0 f1 f2 f3 f4 f5 f6 f7
        obtain ⟨y0, y1, y2, y3, y4, y5, y6, y7⟩ := HY7.out
        have HAL := Lib.hid (isAllowed_any rc)
        unfold Rc.val at HAL
        by_cases ha : rcAl rc = true
        rotate_left
        · have hn : ¬ HiOk xs hs := fun h => ha (by rw [HRC.out]; exact h.al hlt)
          have HV := Lib.hid hn
          rw [Bool.eq_false_iff.2 ha] at HAL
          clear ha hn
          go_wp2_with (go_at_call 77; refine (HAL.out _).mono ?_; rintro e w8 ⟨rfl, hb8⟩; have HB8 := Lib.hid (below_next HB7.out hb8); clear hb8)
          go_returns
          exact ⟨⟨none, 0, [], by rw [pB_no HV.out]; rfl, Lst.nil _ _ _, fun h => absurd h HV.out, fun _ => rfl⟩, Below_next HB1.out (Below_next HB.out HB8.out)⟩
        have HPS := Lib.hid (HP.out.step (by omega) HIK.out (fun h => absurd h (by omega)) (by rw [← HRC.out]; exact ha))
        rw [ha] at HAL
        clear ha
        go_wp2_with (first
          | (go_at_call 77; refine (HAL.out _).mono ?_; rintro e w8 ⟨rfl, hb8⟩; have HB8 := Lib.hid (below_next HB7.out hb8); clear y0 y1 y2 y3 y4 y5 y6 y7; obtain ⟨y0, y1, y2, y3, y4, y5, y6, y7⟩ := HY7.out.below hb8 hs7; have HOW := Lib.hid (own_next HO.out HB8.out); have hs8 := Nat.le_trans (Nat.le_trans HB.out.size HB8.out.size) (Nat.le_refl _); clear hb8)
          | (at_builtin; refine wpList_append_srcN _ rfl (.tmp 53) (.tmp 55) 70 rfl w1.heap.size 98 i0 (.agg #[.int .i64 0, .int .i64 0, .int .i64 0, .int .i64 0, .int .i64 0, .bool false, .int .i64 0, .bool false]) 8 64 (by decide) Try.underlying70 HZ.out.1 HZ.out.2.1 HZ.out.2.2.1 HZ.out.2.2.2 rfl _ 0 ((rcTo xs hs 0).flatMap Flat.cells) rfl (HOW.out.alloc _) (some ⟨w8.heap.size, 0, none⟩) 1 1 (Rc.cs rc) rfl rfl (fun _ => ⟨_, rfl, rc_news (rcBx_at (rcBx_new _ _ _))⟩) (rc_one _) (by unfold maxLen; omega) (by omega) (by simp; omega) ?_; intro v1 w9 hown hgrow hat; have HST := Lib.hid (rc_step HOW.out (Below_next HB.out HB8.out) HRC.out hown hgrow); clear hown hgrow hat))
        go_roundw
        case rel => exact ⟨0 + 1, by omega, by go_num, HPS, Lib.hid HST.out.1, Lib.hid HST.out.2⟩
        case measure => simp [intOf]; omega
      have cp := ((HCC.out.2 m (by omega)).below HB3.out HCC.out.1).c0
      have HCP := Lib.hid cp
      have e0 : ((m + 1 : Nat) : Int) = (m : Int) + 1 := by omega
      have k1 : (0 : Int) ≤ (m : Int) := by omega
      have k2 : (m : Int) < (hs.length : Int) := by omega
      have k0 : (0 : Int) < (m : Int) + 1 := by omega
      have k7 : (m : Int) + 1 ≤ (ch : Int) := by omega
      have k8 : (0 : Int) ≤ (m : Int) + 1 := by omega
      have kw : IntKind.i64.wrap (m : Int) = (m : Int) := IntWalk.i64_in _ (by omega)
      clear cp hi1 hi2
      rw [e0]
      by_cases hup : (it hs (m + 1)).tick < (it hs m).tick
      · have hn : ¬ HiOk xs hs := fun h => by
          have := (h.2.tk (m + 1) hlt).up (by omega)
          rw [show m + 1 - 1 = m from rfl] at this
          omega
        have HV := Lib.hid hn
        clear hn
        refine wp_region_held_drew (S := (fun w' => w'.cell? ⟨wr.heap.size, 0, none⟩ = some (.int .i64 (it hs (m + 1)).tick) ∧ w'.cell? ⟨wr.heap.size, 1, none⟩ = some (.int .i64 (it hs (m + 1)).caller) ∧ w'.cell? ⟨wr.heap.size, 2, none⟩ = some (.int .i64 (it hs (m + 1)).item) ∧ w'.cell? ⟨wr.heap.size, 3, none⟩ = some (.int .i64 (it hs (m + 1)).name) ∧ w'.cell? ⟨wr.heap.size, 4, none⟩ = some (.int .i64 (it hs (m + 1)).mark) ∧ w'.cell? ⟨wr.heap.size, 5, none⟩ = some (.bool (it hs (m + 1)).review) ∧ w'.cell? ⟨b, o + m * 6, none⟩ = some (.int .i64 (it hs m).tick))) (by kernel_rfl) ?_ (fun hHeld0 => ?_)
        · ((try dsimp only); exact ⟨HX3.out.c0, HX3.out.c1, HX3.out.c2, HX3.out.c3, HX3.out.c4, HX3.out.c5, HCP.out⟩)
        refine wpAnyH_take (i := 0) (oi := _) (v := ?_) rfl (by kernel_rfl) (by kernel_rfl) (by kernel_rfl) (fun _ _ _ h => h) (Or.inl ⟨by rfl, ?_⟩) (by assumption) ?_
        rotate_left
        · (intro w hSw; (try dsimp only at hSw); go_simp; try with_reducible rfl)
        try simp only [Act.put, List.setIfInBounds_toArray, List.set_cons_zero, List.set_cons_succ, List.getElem_toArray, List.getElem_cons_zero]
        refine wpAnyH_take (i := 1) (oi := _) (v := ?_) rfl (by kernel_rfl) (by kernel_rfl) (by kernel_rfl) (fun _ _ _ h => h) (Or.inl ⟨by rfl, ?_⟩) (by assumption) ?_
        rotate_left
        · (intro w hSw; (try dsimp only at hSw); go_simp; try with_reducible rfl)
        try simp only [Act.put, List.setIfInBounds_toArray, List.set_cons_zero, List.set_cons_succ, List.getElem_toArray, List.getElem_cons_zero, List.getElem_cons_succ]
        refine wpAnyH_ready (rs := [2]) (by kernel_rfl) (by simp) ?_
        refine AllReadyH.cons rfl (fun K hK => ?_) ?_
        rotate_left
        · exact AllReadyH.nil
        go_simp
        go_wp2_with (go_at_call 75; refine HIC.out.mono ?_; rintro e w4 ⟨rfl, hb4⟩; have hs4 := Nat.lt_of_lt_of_le (show wr.heap.size < w3.drew.heap.size by omega) hb4.size; have HB4 := Lib.hid (below_next HB3.out hb4); have hx4 := HX3.out.below hb4 (by omega); have cp4 := ((HCC.out.2 m (by omega)).below HB4.out HCC.out.1).c0; have HX4 := Lib.hid (show _ ∧ _ ∧ _ ∧ _ ∧ _ ∧ _ ∧ _ from ⟨hx4.c0, hx4.c1, hx4.c2, hx4.c3, hx4.c4, hx4.c5, cp4⟩); clear hb4 hx4 cp4)
        refine hK.out _ _ ?_ (fun hHeld1 => ?_)
        · ((try dsimp only); exact HX4.out)
        clear hK K
        refine wpAnyH_take (i := 3) (oi := _) (v := ?_) rfl (by kernel_rfl) (by kernel_rfl) (by kernel_rfl) (fun _ _ _ h => h) (Or.inl ⟨by rfl, ?_⟩) (by assumption) ?_
        rotate_left
        · (intro w hSw; (try dsimp only at hSw); go_simp; try with_reducible rfl)
        try simp only [Act.put, List.setIfInBounds_toArray, List.set_cons_zero, List.set_cons_succ, List.getElem_toArray, List.getElem_cons_zero, List.getElem_cons_succ]
        refine wpAnyH_take (i := 4) (oi := _) (v := ?_) rfl (by kernel_rfl) (by kernel_rfl) (by kernel_rfl) (fun _ _ _ h => h) (Or.inl ⟨by rfl, ?_⟩) (by assumption) ?_
        rotate_left
        · (intro w hSw; (try dsimp only at hSw); go_simp; try with_reducible rfl)
        try simp only [Act.put, List.setIfInBounds_toArray, List.set_cons_zero, List.set_cons_succ, List.getElem_toArray, List.getElem_cons_zero, List.getElem_cons_succ]
        refine wpAnyH_take (i := 5) (oi := _) (v := ?_) rfl (by kernel_rfl) (by kernel_rfl) (by kernel_rfl) (fun _ _ _ h => h) (Or.inl ⟨by rfl, ?_⟩) (by assumption) ?_
        rotate_left
        · (intro w hSw; (try dsimp only at hSw); go_simp; try with_reducible rfl)
        try simp only [Act.put, List.setIfInBounds_toArray, List.set_cons_zero, List.set_cons_succ, List.getElem_toArray, List.getElem_cons_zero, List.getElem_cons_succ]
        refine wpAnyH_take (i := 6) (oi := _) (v := ?_) rfl (by kernel_rfl) (by kernel_rfl) (by kernel_rfl) (fun _ _ _ h => h) (Or.inl ⟨by rfl, ?_⟩) (by assumption) ?_
        rotate_left
        · (intro w hSw; (try dsimp only at hSw); go_simp; try with_reducible rfl)
        try simp only [Act.put, List.setIfInBounds_toArray, List.set_cons_zero, List.set_cons_succ, List.getElem_toArray, List.getElem_cons_zero, List.getElem_cons_succ]
        refine wpAnyH_take (i := 7) (oi := _) (v := ?_) rfl (by kernel_rfl) (by kernel_rfl) (by kernel_rfl) (fun _ _ _ h => h) (Or.inl ⟨by rfl, ?_⟩) (by assumption) ?_
        rotate_left
        · (intro w hSw; (try dsimp only at hSw); go_simp; try with_reducible rfl)
        try simp only [Act.put, List.setIfInBounds_toArray, List.set_cons_zero, List.set_cons_succ, List.getElem_toArray, List.getElem_cons_zero, List.getElem_cons_succ]
        refine wpAnyH_take (i := 8) (oi := _) (v := ?_) rfl (by kernel_rfl) (by kernel_rfl) (by kernel_rfl) (fun _ _ _ h => h) (Or.inl ⟨by rfl, ?_⟩) (by assumption) ?_
        rotate_left
        · (intro w hSw; (try dsimp only at hSw); go_simp; try with_reducible rfl)
        try simp only [Act.put, List.setIfInBounds_toArray, List.set_cons_zero, List.set_cons_succ, List.getElem_toArray, List.getElem_cons_zero, List.getElem_cons_succ]
        refine wpAnyH_take (i := 9) (oi := _) (v := ?_) rfl (by kernel_rfl) (by kernel_rfl) (by kernel_rfl) (fun _ _ _ h => h) (Or.inl ⟨by rfl, ?_⟩) (by assumption) ?_
        rotate_left
        · (intro w hSw; (try dsimp only at hSw); go_simp; try with_reducible rfl)
        try simp only [Act.put, List.setIfInBounds_toArray, List.set_cons_zero, List.set_cons_succ, List.getElem_toArray, List.getElem_cons_zero, List.getElem_cons_succ]
        refine wpAnyH_take (i := 10) (oi := _) (v := ?_) rfl (by kernel_rfl) (by kernel_rfl) (by kernel_rfl) (fun _ _ _ h => h) (Or.inl ⟨by rfl, ?_⟩) (by assumption) ?_
        rotate_left
        · (intro w hSw; (try dsimp only at hSw); go_simp; try with_reducible rfl)
        try simp only [Act.put, List.setIfInBounds_toArray, List.set_cons_zero, List.set_cons_succ, List.getElem_toArray, List.getElem_cons_zero, List.getElem_cons_succ]
        refine wpAnyH_take (i := 11) (oi := _) (v := ?_) rfl (by kernel_rfl) (by kernel_rfl) (by kernel_rfl) (fun _ _ _ h => h) (Or.inl ⟨by rfl, ?_⟩) (by assumption) ?_
        rotate_left
        · (intro w hSw; (try dsimp only at hSw); go_simp; try with_reducible rfl)
        try simp only [Act.put, List.setIfInBounds_toArray, List.set_cons_zero, List.set_cons_succ, List.getElem_toArray, List.getElem_cons_zero, List.getElem_cons_succ]
        refine wpAnyH_take (i := 12) (oi := _) (v := ?_) rfl (by kernel_rfl) (by kernel_rfl) (by kernel_rfl) (fun _ _ _ h => h) (Or.inl ⟨by rfl, ?_⟩) (by assumption) ?_
        rotate_left
        · (intro w hSw; (try dsimp only at hSw); go_simp; try with_reducible rfl)
        try simp only [Act.put, List.setIfInBounds_toArray, List.set_cons_zero, List.set_cons_succ, List.getElem_toArray, List.getElem_cons_zero, List.getElem_cons_succ]
        refine wpAnyH_take (i := 13) (oi := _) (v := ?_) rfl (by kernel_rfl) (by kernel_rfl) (by kernel_rfl) (fun _ _ _ h => h) (Or.inl ⟨by rfl, ?_⟩) (by assumption) ?_
        rotate_left
        · (intro w hSw; (try dsimp only at hSw); go_simp; try with_reducible rfl)
        try simp only [Act.put, List.setIfInBounds_toArray, List.set_cons_zero, List.set_cons_succ, List.getElem_toArray, List.getElem_cons_zero, List.getElem_cons_succ]
        refine wpAnyH_take (i := 14) (oi := _) (v := ?_) rfl (by kernel_rfl) (by kernel_rfl) (by kernel_rfl) (fun _ _ _ h => h) (Or.inl ⟨by rfl, ?_⟩) (by assumption) ?_
        rotate_left
        · (intro w hSw; (try dsimp only at hSw); go_simp; try with_reducible rfl)
        try simp only [Act.put, List.setIfInBounds_toArray, List.set_cons_zero, List.set_cons_succ, List.getElem_toArray, List.getElem_cons_zero, List.getElem_cons_succ]
        refine wpAnyH_take (i := 15) (oi := _) (v := ?_) rfl (by kernel_rfl) (by kernel_rfl) (by kernel_rfl) (fun _ _ _ h => h) (Or.inl ⟨by rfl, ?_⟩) (by assumption) ?_
        rotate_left
        · (intro w hSw; (try dsimp only at hSw); go_simp; try with_reducible rfl)
        try simp only [Act.put, List.setIfInBounds_toArray, List.set_cons_zero, List.set_cons_succ, List.getElem_toArray, List.getElem_cons_zero, List.getElem_cons_succ]
        refine wpAnyH_take (i := 16) (oi := _) (v := ?_) rfl (by kernel_rfl) (by kernel_rfl) (by kernel_rfl) (fun _ _ _ h => h) (Or.inl ⟨by rfl, ?_⟩) (by assumption) ?_
        rotate_left
        · (intro w hSw; (try dsimp only at hSw); go_simp; try with_reducible rfl)
        try simp only [Act.put, List.setIfInBounds_toArray, List.set_cons_zero, List.set_cons_succ, List.getElem_toArray, List.getElem_cons_zero, List.getElem_cons_succ]
        refine wpAnyH_take (i := 17) (oi := _) (v := ?_) rfl (by kernel_rfl) (by kernel_rfl) (by kernel_rfl) (fun _ _ _ h => h) (Or.inl ⟨by rfl, ?_⟩) (by assumption) ?_
        rotate_left
        · (intro w hSw; (try dsimp only at hSw); go_simp; try with_reducible rfl)
        try simp only [Act.put, List.setIfInBounds_toArray, List.set_cons_zero, List.set_cons_succ, List.getElem_toArray, List.getElem_cons_zero, List.getElem_cons_succ]
        refine wpAnyH_take (i := 18) (oi := _) (v := ?_) rfl (by kernel_rfl) (by kernel_rfl) (by kernel_rfl) (fun _ _ _ h => h) (Or.inl ⟨by rfl, ?_⟩) (by assumption) ?_
        rotate_left
        · (intro w hSw; (try dsimp only at hSw); go_simp; try with_reducible rfl)
        try simp only [Act.put, List.setIfInBounds_toArray, List.set_cons_zero, List.set_cons_succ, List.getElem_toArray, List.getElem_cons_zero, List.getElem_cons_succ]
        refine wpAnyH_done (by kernel_rfl) ?_ _
        go_wp2
        go_returns
        exact ⟨⟨none, 0, [], by rw [pB_no HV.out]; rfl, Lst.nil _ _ _, fun h => absurd h HV.out, fun _ => rfl⟩, Below_next HB1.out (Below_next HB.out HB4.out)⟩
      · have hup' : (it hs m).tick ≤ (it hs (m + 1)).tick := by omega
        have HUP := Lib.hid hup'
        clear hup
        refine wp_region_held_drew (S := (fun w' => w'.cell? ⟨wr.heap.size, 0, none⟩ = some (.int .i64 (it hs (m + 1)).tick) ∧ w'.cell? ⟨wr.heap.size, 1, none⟩ = some (.int .i64 (it hs (m + 1)).caller) ∧ w'.cell? ⟨wr.heap.size, 2, none⟩ = some (.int .i64 (it hs (m + 1)).item) ∧ w'.cell? ⟨wr.heap.size, 3, none⟩ = some (.int .i64 (it hs (m + 1)).name) ∧ w'.cell? ⟨wr.heap.size, 4, none⟩ = some (.int .i64 (it hs (m + 1)).mark) ∧ w'.cell? ⟨wr.heap.size, 5, none⟩ = some (.bool (it hs (m + 1)).review) ∧ w'.cell? ⟨b, o + m * 6, none⟩ = some (.int .i64 (it hs m).tick))) (by kernel_rfl) ?_ (fun hHeld0 => ?_)
        · ((try dsimp only); exact ⟨HX3.out.c0, HX3.out.c1, HX3.out.c2, HX3.out.c3, HX3.out.c4, HX3.out.c5, HCP.out⟩)
        refine wpAnyH_take (i := 0) (oi := _) (v := ?_) rfl (by kernel_rfl) (by kernel_rfl) (by kernel_rfl) (fun _ _ _ h => h) (Or.inl ⟨by rfl, ?_⟩) (by assumption) ?_
        rotate_left
        · (intro w hSw; (try dsimp only at hSw); go_simp; try with_reducible rfl)
        try simp only [Act.put, List.setIfInBounds_toArray, List.set_cons_zero, List.set_cons_succ, List.getElem_toArray, List.getElem_cons_zero]
        refine wpAnyH_take (i := 1) (oi := _) (v := ?_) rfl (by kernel_rfl) (by kernel_rfl) (by kernel_rfl) (fun _ _ _ h => h) (Or.inl ⟨by rfl, ?_⟩) (by assumption) ?_
        rotate_left
        · (intro w hSw; (try dsimp only at hSw); go_simp; try with_reducible rfl)
        try simp only [Act.put, List.setIfInBounds_toArray, List.set_cons_zero, List.set_cons_succ, List.getElem_toArray, List.getElem_cons_zero, List.getElem_cons_succ]
        refine wpAnyH_ready (rs := [2]) (by kernel_rfl) (by simp) ?_
        refine AllReadyH.cons rfl (fun K hK => ?_) ?_
        rotate_left
        · exact AllReadyH.nil
        go_simp
        go_wp2_with (go_at_call 75; refine HIC.out.mono ?_; rintro e w4 ⟨rfl, hb4⟩; have hs4 := Nat.lt_of_lt_of_le (show wr.heap.size < w3.drew.heap.size by omega) hb4.size; have HB4 := Lib.hid (below_next HB3.out hb4); have hx4 := HX3.out.below hb4 (by omega); have cp4 := ((HCC.out.2 m (by omega)).below HB4.out HCC.out.1).c0; have HX4 := Lib.hid (show _ ∧ _ ∧ _ ∧ _ ∧ _ ∧ _ ∧ _ from ⟨hx4.c0, hx4.c1, hx4.c2, hx4.c3, hx4.c4, hx4.c5, cp4⟩); clear hb4 hx4 cp4)
        refine hK.out _ _ ?_ (fun hHeld1 => ?_)
        · ((try dsimp only); exact HX4.out)
        clear hK K
        refine wpAnyH_take (i := 3) (oi := _) (v := ?_) rfl (by kernel_rfl) (by kernel_rfl) (by kernel_rfl) (fun _ _ _ h => h) (Or.inl ⟨by rfl, ?_⟩) (by assumption) ?_
        rotate_left
        · (intro w hSw; (try dsimp only at hSw); go_simp; try with_reducible rfl)
        try simp only [Act.put, List.setIfInBounds_toArray, List.set_cons_zero, List.set_cons_succ, List.getElem_toArray, List.getElem_cons_zero, List.getElem_cons_succ]
        refine wpAnyH_take (i := 4) (oi := _) (v := ?_) rfl (by kernel_rfl) (by kernel_rfl) (by kernel_rfl) (fun _ _ _ h => h) (Or.inl ⟨by rfl, ?_⟩) (by assumption) ?_
        rotate_left
        · (intro w hSw; (try dsimp only at hSw); go_simp; try with_reducible rfl)
        try simp only [Act.put, List.setIfInBounds_toArray, List.set_cons_zero, List.set_cons_succ, List.getElem_toArray, List.getElem_cons_zero, List.getElem_cons_succ]
        refine wpAnyH_take (i := 5) (oi := _) (v := ?_) rfl (by kernel_rfl) (by kernel_rfl) (by kernel_rfl) (fun _ _ _ h => h) (Or.inl ⟨by rfl, ?_⟩) (by assumption) ?_
        rotate_left
        · (intro w hSw; (try dsimp only at hSw); go_simp; try with_reducible rfl)
        try simp only [Act.put, List.setIfInBounds_toArray, List.set_cons_zero, List.set_cons_succ, List.getElem_toArray, List.getElem_cons_zero, List.getElem_cons_succ]
        refine wpAnyH_take (i := 6) (oi := _) (v := ?_) rfl (by kernel_rfl) (by kernel_rfl) (by kernel_rfl) (fun _ _ _ h => h) (Or.inl ⟨by rfl, ?_⟩) (by assumption) ?_
        rotate_left
        · (intro w hSw; (try dsimp only at hSw); go_simp; try with_reducible rfl)
        try simp only [Act.put, List.setIfInBounds_toArray, List.set_cons_zero, List.set_cons_succ, List.getElem_toArray, List.getElem_cons_zero, List.getElem_cons_succ]
        refine wpAnyH_take (i := 7) (oi := _) (v := ?_) rfl (by kernel_rfl) (by kernel_rfl) (by kernel_rfl) (fun _ _ _ h => h) (Or.inl ⟨by rfl, ?_⟩) (by assumption) ?_
        rotate_left
        · (intro w hSw; (try dsimp only at hSw); go_simp; try with_reducible rfl)
        try simp only [Act.put, List.setIfInBounds_toArray, List.set_cons_zero, List.set_cons_succ, List.getElem_toArray, List.getElem_cons_zero, List.getElem_cons_succ]
        refine wpAnyH_take (i := 8) (oi := _) (v := ?_) rfl (by kernel_rfl) (by kernel_rfl) (by kernel_rfl) (fun _ _ _ h => h) (Or.inl ⟨by rfl, ?_⟩) (by assumption) ?_
        rotate_left
        · (intro w hSw; (try dsimp only at hSw); go_simp; try with_reducible rfl)
        try simp only [Act.put, List.setIfInBounds_toArray, List.set_cons_zero, List.set_cons_succ, List.getElem_toArray, List.getElem_cons_zero, List.getElem_cons_succ]
        refine wpAnyH_take (i := 9) (oi := _) (v := ?_) rfl (by kernel_rfl) (by kernel_rfl) (by kernel_rfl) (fun _ _ _ h => h) (Or.inl ⟨by rfl, ?_⟩) (by assumption) ?_
        rotate_left
        · (intro w hSw; (try dsimp only at hSw); go_simp; try with_reducible rfl)
        try simp only [Act.put, List.setIfInBounds_toArray, List.set_cons_zero, List.set_cons_succ, List.getElem_toArray, List.getElem_cons_zero, List.getElem_cons_succ]
        refine wpAnyH_take (i := 10) (oi := _) (v := ?_) rfl (by kernel_rfl) (by kernel_rfl) (by kernel_rfl) (fun _ _ _ h => h) (Or.inl ⟨by rfl, ?_⟩) (by assumption) ?_
        rotate_left
        · (intro w hSw; (try dsimp only at hSw); go_simp; try with_reducible rfl)
        try simp only [Act.put, List.setIfInBounds_toArray, List.set_cons_zero, List.set_cons_succ, List.getElem_toArray, List.getElem_cons_zero, List.getElem_cons_succ]
        refine wpAnyH_take (i := 11) (oi := _) (v := ?_) rfl (by kernel_rfl) (by kernel_rfl) (by kernel_rfl) (fun _ _ _ h => h) (Or.inl ⟨by rfl, ?_⟩) (by assumption) ?_
        rotate_left
        · (intro w hSw; (try dsimp only at hSw); go_simp; try with_reducible rfl)
        try simp only [Act.put, List.setIfInBounds_toArray, List.set_cons_zero, List.set_cons_succ, List.getElem_toArray, List.getElem_cons_zero, List.getElem_cons_succ]
        refine wpAnyH_take (i := 12) (oi := _) (v := ?_) rfl (by kernel_rfl) (by kernel_rfl) (by kernel_rfl) (fun _ _ _ h => h) (Or.inl ⟨by rfl, ?_⟩) (by assumption) ?_
        rotate_left
        · (intro w hSw; (try dsimp only at hSw); go_simp; try with_reducible rfl)
        try simp only [Act.put, List.setIfInBounds_toArray, List.set_cons_zero, List.set_cons_succ, List.getElem_toArray, List.getElem_cons_zero, List.getElem_cons_succ]
        refine wpAnyH_take (i := 13) (oi := _) (v := ?_) rfl (by kernel_rfl) (by kernel_rfl) (by kernel_rfl) (fun _ _ _ h => h) (Or.inl ⟨by rfl, ?_⟩) (by assumption) ?_
        rotate_left
        · (intro w hSw; (try dsimp only at hSw); go_simp; try with_reducible rfl)
        try simp only [Act.put, List.setIfInBounds_toArray, List.set_cons_zero, List.set_cons_succ, List.getElem_toArray, List.getElem_cons_zero, List.getElem_cons_succ]
        refine wpAnyH_take (i := 14) (oi := _) (v := ?_) rfl (by kernel_rfl) (by kernel_rfl) (by kernel_rfl) (fun _ _ _ h => h) (Or.inl ⟨by rfl, ?_⟩) (by assumption) ?_
        rotate_left
        · (intro w hSw; (try dsimp only at hSw); go_simp; try with_reducible rfl)
        try simp only [Act.put, List.setIfInBounds_toArray, List.set_cons_zero, List.set_cons_succ, List.getElem_toArray, List.getElem_cons_zero, List.getElem_cons_succ]
        refine wpAnyH_take (i := 15) (oi := _) (v := ?_) rfl (by kernel_rfl) (by kernel_rfl) (by kernel_rfl) (fun _ _ _ h => h) (Or.inl ⟨by rfl, ?_⟩) (by assumption) ?_
        rotate_left
        · (intro w hSw; (try dsimp only at hSw); go_simp; try with_reducible rfl)
        try simp only [Act.put, List.setIfInBounds_toArray, List.set_cons_zero, List.set_cons_succ, List.getElem_toArray, List.getElem_cons_zero, List.getElem_cons_succ]
        refine wpAnyH_take (i := 16) (oi := _) (v := ?_) rfl (by kernel_rfl) (by kernel_rfl) (by kernel_rfl) (fun _ _ _ h => h) (Or.inl ⟨by rfl, ?_⟩) (by assumption) ?_
        rotate_left
        · (intro w hSw; (try dsimp only at hSw); go_simp; try with_reducible rfl)
        try simp only [Act.put, List.setIfInBounds_toArray, List.set_cons_zero, List.set_cons_succ, List.getElem_toArray, List.getElem_cons_zero, List.getElem_cons_succ]
        refine wpAnyH_take (i := 17) (oi := _) (v := ?_) rfl (by kernel_rfl) (by kernel_rfl) (by kernel_rfl) (fun _ _ _ h => h) (Or.inl ⟨by rfl, ?_⟩) (by assumption) ?_
        rotate_left
        · (intro w hSw; (try dsimp only at hSw); go_simp; try with_reducible rfl)
        try simp only [Act.put, List.setIfInBounds_toArray, List.set_cons_zero, List.set_cons_succ, List.getElem_toArray, List.getElem_cons_zero, List.getElem_cons_succ]
        refine wpAnyH_take (i := 18) (oi := _) (v := ?_) rfl (by kernel_rfl) (by kernel_rfl) (by kernel_rfl) (fun _ _ _ h => h) (Or.inl ⟨by rfl, ?_⟩) (by assumption) ?_
        rotate_left
        · (intro w hSw; (try dsimp only at hSw); go_simp; try with_reducible rfl)
        try simp only [Act.put, List.setIfInBounds_toArray, List.set_cons_zero, List.set_cons_succ, List.getElem_toArray, List.getElem_cons_zero, List.getElem_cons_succ]
        refine wpAnyH_done (by kernel_rfl) ?_ _
        obtain ⟨rc, hrc⟩ : ∃ rc, rc = rcB xs (hs.take (m + 1)) (it hs (m + 1)) := ⟨_, rfl⟩
        have HRB := Lib.hid (fun W (h1 : Ims W W.heap.size P xs) (h2 : Lst W W.heap.size (some ⟨b, o, none⟩) hs) => recordBehind_at P c xs (some ⟨b, o, none⟩) ch hs (m + 1) W h1 HF.out HK.out h2 hlt h60 HIK.out)
        rw [← hrc] at HRB
        unfold Rc.val Cg.val at HRB
        have HRC := Lib.hid hrc
        have hd4 := below_drew w4
        have HB5 := Lib.hid (below_next HB4.out hd4)
        have HX5 := Lib.hid ((⟨HX4.out.1, HX4.out.2.1, HX4.out.2.2.1, HX4.out.2.2.2.1, HX4.out.2.2.2.2.1, HX4.out.2.2.2.2.2.1⟩ : CgBx w4 wr.heap.size (it hs (m + 1))).below hd4 hs4)
        have hs5 : wr.heap.size < w4.drew.heap.size := hs4
        clear hrc hd4
        go_wp2_with fail
        refine wp_region_held_drew (S := (fun w' => w'.cell? ⟨wr.heap.size, 0, none⟩ = some (.int .i64 (it hs (m + 1)).tick) ∧ w'.cell? ⟨wr.heap.size, 1, none⟩ = some (.int .i64 (it hs (m + 1)).caller) ∧ w'.cell? ⟨wr.heap.size, 2, none⟩ = some (.int .i64 (it hs (m + 1)).item) ∧ w'.cell? ⟨wr.heap.size, 3, none⟩ = some (.int .i64 (it hs (m + 1)).name) ∧ w'.cell? ⟨wr.heap.size, 4, none⟩ = some (.int .i64 (it hs (m + 1)).mark) ∧ w'.cell? ⟨wr.heap.size, 5, none⟩ = some (.bool (it hs (m + 1)).review))) (by kernel_rfl) ?_ (fun hHeld0 => ?_)
        · exact HX5.out.all
        refine wpAnyH_take (i := 0) (oi := _) (v := ?_) rfl (by kernel_rfl) (by kernel_rfl) (by kernel_rfl) (fun _ _ _ h => h) (Or.inl ⟨by rfl, ?_⟩) (by assumption) ?_
        rotate_left
        · (intro w hSw; (try dsimp only at hSw); go_simp; try with_reducible rfl)
        try simp only [Act.put, List.setIfInBounds_toArray, List.set_cons_zero, List.set_cons_succ, List.getElem_toArray, List.getElem_cons_zero]
        refine wpAnyH_take (i := 1) (oi := _) (v := ?_) rfl (by kernel_rfl) (by kernel_rfl) (by kernel_rfl) (fun _ _ _ h => h) (Or.inl ⟨by rfl, ?_⟩) (by assumption) ?_
        rotate_left
        · (intro w hSw; (try dsimp only at hSw); go_simp; try with_reducible rfl)
        try simp only [Act.put, List.setIfInBounds_toArray, List.set_cons_zero, List.set_cons_succ, List.getElem_toArray, List.getElem_cons_zero, List.getElem_cons_succ]
        refine wpAnyH_take (i := 2) (oi := _) (v := ?_) rfl (by kernel_rfl) (by kernel_rfl) (by kernel_rfl) (fun _ _ _ h => h) (Or.inl ⟨by rfl, ?_⟩) (by assumption) ?_
        rotate_left
        · (intro w hSw; (try dsimp only at hSw); go_simp; try with_reducible rfl)
        try simp only [Act.put, List.setIfInBounds_toArray, List.set_cons_zero, List.set_cons_succ, List.getElem_toArray, List.getElem_cons_zero, List.getElem_cons_succ]
        refine wpAnyH_take (i := 3) (oi := _) (v := ?_) rfl (by kernel_rfl) (by kernel_rfl) (by kernel_rfl) (fun _ _ _ h => h) (Or.inl ⟨by rfl, ?_⟩) (by assumption) ?_
        rotate_left
        · (intro w hSw; (try dsimp only at hSw); go_simp; try with_reducible rfl)
        try simp only [Act.put, List.setIfInBounds_toArray, List.set_cons_zero, List.set_cons_succ, List.getElem_toArray, List.getElem_cons_zero, List.getElem_cons_succ]
        refine wpAnyH_take (i := 4) (oi := _) (v := ?_) rfl (by kernel_rfl) (by kernel_rfl) (by kernel_rfl) (fun _ _ _ h => h) (Or.inl ⟨by rfl, ?_⟩) (by assumption) ?_
        rotate_left
        · (intro w hSw; (try dsimp only at hSw); go_simp; try with_reducible rfl)
        try simp only [Act.put, List.setIfInBounds_toArray, List.set_cons_zero, List.set_cons_succ, List.getElem_toArray, List.getElem_cons_zero, List.getElem_cons_succ]
        refine wpAnyH_ready (rs := [5, 6]) (by kernel_rfl) (by simp) ?_
        refine AllReadyH.cons rfl (fun K hK => ?_) ?_
        · go_simp
          go_wp2_with (go_at_call 76; refine (HRB.out _ (HRr.out.next HB5.out) ((HGA.out.below HB5.out (Nat.le_refl _)).up HB5.out.size)).mono ?_; rintro e w6 ⟨rfl, hb6⟩; have hs6 := Nat.lt_of_lt_of_le hs5 hb6.size; have HB6 := Lib.hid (below_next HB5.out hb6); have HX6 := Lib.hid (HX5.out.below hb6 hs5); clear hb6)
          refine hK.out _ _ ?_ (fun hHeld1 => ?_)
          · exact HX6.out.all
          clear hK K
          refine wpAnyH_ready (rs := [6]) (by kernel_rfl) (by simp) ?_
          refine AllReadyH.cons rfl (fun K hK => ?_) ?_
          rotate_left
          · exact AllReadyH.nil
          go_simp
          refine hK.out _ _ ?_ (fun hHeld2 => ?_)
          · exact (HX6.out.below (below_alloc _ _) hs6).all
          clear hK K
          have HY := Lib.hid (rc_boxed w6 rc)
          refine wpAnyH_ready (rs := [7]) (by kernel_rfl) (by simp) ?_
          refine AllReadyH.cons rfl (fun K hK => ?_) ?_
          rotate_left
          · exact AllReadyH.nil
          go_simp
          refine hK.out _ _ ?_ (fun hHeld3 => ?_)
          · exact (HX6.out.below (below_alloc _ _) hs6).all
          clear hK K
          refine wpAnyH_done (by kernel_rfl) ?_ _
          generalize hw7 : World.alloc w6 _ = w7
          have HY7 : Hid (RcBx w7 w6.heap.size rc) := Lib.hid (by rw [← hw7]; exact rcBx_at (rcBx_new w6 rc _))
          have HB7 : Hid (Below wr.heap.size wr w7) := Lib.hid (by rw [← hw7]; exact below_next HB6.out (below_alloc _ _))
          have hs7 : w6.heap.size < w7.heap.size := by rw [← hw7]; simp
          clear hw7
          obtain ⟨y0, y1, y2, y3, y4, y5, y6, y7⟩ := HY7.out
          have HAL := Lib.hid (isAllowed_any rc)
          unfold Rc.val at HAL
          by_cases ha : rcAl rc = true
          rotate_left
          · have hn : ¬ HiOk xs hs := fun h => ha (by rw [HRC.out]; exact h.al hlt)
            have HV := Lib.hid hn
            rw [Bool.eq_false_iff.2 ha] at HAL
            clear ha hn
            go_wp2_with (go_at_call 77; refine (HAL.out _).mono ?_; rintro e w8 ⟨rfl, hb8⟩; have HB8 := Lib.hid (below_next HB7.out hb8); clear hb8)
            go_returns
            exact ⟨⟨none, 0, [], by rw [pB_no HV.out]; rfl, Lst.nil _ _ _, fun h => absurd h HV.out, fun _ => rfl⟩, Below_next HB1.out (Below_next HB.out HB8.out)⟩
          have HPS := Lib.hid (HP.out.step (by omega) HIK.out (fun _ => HUP.out) (by rw [← HRC.out]; exact ha))
          rw [ha] at HAL
          clear ha
          go_wp2_with (first
            | (go_at_call 77; refine (HAL.out _).mono ?_; rintro e w8 ⟨rfl, hb8⟩; have HB8 := Lib.hid (below_next HB7.out hb8); clear y0 y1 y2 y3 y4 y5 y6 y7; obtain ⟨y0, y1, y2, y3, y4, y5, y6, y7⟩ := HY7.out.below hb8 hs7; have HOW := Lib.hid (own_next HO.out HB8.out); have hs8 := Nat.le_trans (Nat.le_trans HB.out.size HB8.out.size) (Nat.le_refl _); clear hb8)
            | (at_builtin; refine wpList_append_srcN _ rfl (.tmp 53) (.tmp 55) 70 rfl w1.heap.size 98 i0 (.agg #[.int .i64 0, .int .i64 0, .int .i64 0, .int .i64 0, .int .i64 0, .bool false, .int .i64 0, .bool false]) 8 64 (by decide) Try.underlying70 HZ.out.1 HZ.out.2.1 HZ.out.2.2.1 HZ.out.2.2.2 rfl _ (m + 1) ((rcTo xs hs (m + 1)).flatMap Flat.cells) rfl (HOW.out.alloc _) (some ⟨w8.heap.size, 0, none⟩) 1 1 (Rc.cs rc) rfl rfl (fun _ => ⟨_, rfl, rc_news (rcBx_at (rcBx_new _ _ _))⟩) (rc_one _) (by unfold maxLen; omega) (by omega) (by simp; omega) ?_; intro v1 w9 hown hgrow hat; have HST := Lib.hid (rc_step HOW.out (Below_next HB.out HB8.out) HRC.out hown hgrow); clear hown hgrow hat))
          go_roundw
          case rel => exact ⟨(m + 1) + 1, by omega, by go_num, HPS, Lib.hid HST.out.1, Lib.hid HST.out.2⟩
          case measure => simp [intOf]; omega
        refine AllReadyH.cons rfl (fun K hK => ?_) ?_
        rotate_left
        · exact AllReadyH.nil
        go_simp
        refine hK.out _ _ ?_ (fun hHeld1 => ?_)
        · exact (HX5.out.below (below_alloc _ _) hs5).all
        clear hK K
        have hb6 : Below w4.drew.heap.size w4.drew (w4.alloc (.cells #[.int .i64 0, .int .i64 0, .int .i64 0, .int .i64 0, .int .i64 0, .bool false, .int .i64 0, .bool false] 98)).drew := below_alloc w4.drew (.cells #[.int .i64 0, .int .i64 0, .int .i64 0, .int .i64 0, .int .i64 0, .bool false, .int .i64 0, .bool false] 98)
        have HY6 : Hid (∀ w6, Below (w4.alloc (.cells #[.int .i64 0, .int .i64 0, .int .i64 0, .int .i64 0, .int .i64 0, .bool false, .int .i64 0, .bool false] 98)).drew.heap.size (w4.alloc (.cells #[.int .i64 0, .int .i64 0, .int .i64 0, .int .i64 0, .int .i64 0, .bool false, .int .i64 0, .bool false] 98)).drew w6 → RcBx (putAt w4.heap.size 0 w6 0 (Flat.cells rc)) w4.heap.size rc ∧ Below w4.drew.heap.size w4.drew (putAt w4.heap.size 0 w6 0 (Flat.cells rc))) := Lib.hid (fun w6 h => rc_boxed2 (w := w4.drew) (w6 := w6) rc h)
        have HO6 : Hid (RcOwn (w4.alloc (.cells #[.int .i64 0, .int .i64 0, .int .i64 0, .int .i64 0, .int .i64 0, .bool false, .int .i64 0, .bool false] 98)).drew w4.heap.size) := Lib.hid (⟨rcBx_new w4.drew default 98, by simp⟩ : RcOwn (w4.drew.alloc (.cells #[.int .i64 0, .int .i64 0, .int .i64 0, .int .i64 0, .int .i64 0, .bool false, .int .i64 0, .bool false] 98)) w4.drew.heap.size)
        generalize hw5 : (World.alloc w4 _).drew = w5 at hb6 HY6 HO6 ⊢
        clear hw5
        have HB6 := Lib.hid (below_next HB5.out hb6)
        have HX6 := Lib.hid (HX5.out.below hb6 hs5)
        have hs6 := Nat.lt_of_lt_of_le hs5 hb6.size
        clear hb6
        refine wpAnyH_ready (rs := [5]) (by kernel_rfl) (by simp) ?_
        refine AllReadyH.cons rfl (fun K hK => ?_) ?_
        rotate_left
        · exact AllReadyH.nil
        go_simp
        go_wp2_with (go_at_call 76; refine (HRB.out _ (HRr.out.next HB6.out) ((HGA.out.below HB6.out (Nat.le_refl _)).up HB6.out.size)).mono ?_; rintro e w6 ⟨rfl, hb7⟩; have HY7 := Lib.hid (HY6.out w6 hb7); have HO7 := Lib.hid (HO6.out.below hb7); have HX7 := Lib.hid (HX6.out.below hb7 hs6); clear hb7)
        refine hK.out _ _ ?_ (fun hHeld2 => ?_)
        · exact HX7.out.all
        clear hK K
        have hxy : wr.heap.size < w4.heap.size := hs5
        have HX8 := Lib.hid (HX7.out.keep ((putAt_only (S := fun q => q = w4.heap.size) rfl 0 (Flat.cells rc) _ _ 0 (Only.refl _ w6)).block wr.heap.size (Nat.lt_trans hxy HO7.out.lt) (fun e => by omega)))
        obtain ⟨u0, u1, u2, u3, u4x, u5x, u6x, u7x⟩ := HO7.out.cells
        have f0 := HO7.out.free 0 (by omega)
        have f1 := HO7.out.free 1 (by omega)
        have f2 := HO7.out.free 2 (by omega)
        have f3 := HO7.out.free 3 (by omega)
        have f4 := HO7.out.free 4 (by omega)
        have f5 := HO7.out.free 5 (by omega)
        have f6 := HO7.out.free 6 (by omega)
        have f7 := HO7.out.free 7 (by omega)
        refine wpAnyH_ready (rs := [7]) (by kernel_rfl) (by simp) ?_
        refine AllReadyH.cons rfl (fun K hK => ?_) ?_
        rotate_left
        · exact AllReadyH.nil
        go_simp
        refine hK.out _ _ ?_ (fun hHeld3 => ?_)
        · exact HX8.out.all
        clear hK K
        refine wpAnyH_done (by kernel_rfl) ?_ _
        generalize hw7 : (World.setCell (World.setCell (World.setCell (World.setCell (World.setCell (World.setCell (World.setCell (World.setCell w6 _ _) _ _) _ _) _ _) _ _) _ _) _ _) _ _) = w7
        have hy7 : RcBx w7 w4.heap.size rc ∧ Below wr.heap.size wr w7 ∧ w4.heap.size < w7.heap.size := by
          rw [← hw7]
          exact ⟨HY7.out.1, below_next HB5.out HY7.out.2, by have := HO7.out.lt; simpa [World.setCell] using this⟩
        have HY7 := Lib.hid hy7.1
        have HB7 := Lib.hid hy7.2.1
        have hs7 := hy7.2.2
        clear hw7 hy7 u0 u1 u2 u3 u4x u5x u6x u7x f0 f1 f2 f3 f4 f5 f6 f7
        obtain ⟨y0, y1, y2, y3, y4, y5, y6, y7⟩ := HY7.out
        have HAL := Lib.hid (isAllowed_any rc)
        unfold Rc.val at HAL
        by_cases ha : rcAl rc = true
        rotate_left
        · have hn : ¬ HiOk xs hs := fun h => ha (by rw [HRC.out]; exact h.al hlt)
          have HV := Lib.hid hn
          rw [Bool.eq_false_iff.2 ha] at HAL
          clear ha hn
          go_wp2_with (go_at_call 77; refine (HAL.out _).mono ?_; rintro e w8 ⟨rfl, hb8⟩; have HB8 := Lib.hid (below_next HB7.out hb8); clear hb8)
          go_returns
          exact ⟨⟨none, 0, [], by rw [pB_no HV.out]; rfl, Lst.nil _ _ _, fun h => absurd h HV.out, fun _ => rfl⟩, Below_next HB1.out (Below_next HB.out HB8.out)⟩
        have HPS := Lib.hid (HP.out.step (by omega) HIK.out (fun _ => HUP.out) (by rw [← HRC.out]; exact ha))
        rw [ha] at HAL
        clear ha
        go_wp2_with (first
          | (go_at_call 77; refine (HAL.out _).mono ?_; rintro e w8 ⟨rfl, hb8⟩; have HB8 := Lib.hid (below_next HB7.out hb8); clear y0 y1 y2 y3 y4 y5 y6 y7; obtain ⟨y0, y1, y2, y3, y4, y5, y6, y7⟩ := HY7.out.below hb8 hs7; have HOW := Lib.hid (own_next HO.out HB8.out); have hs8 := Nat.le_trans (Nat.le_trans HB.out.size HB8.out.size) (Nat.le_refl _); clear hb8)
          | (at_builtin; refine wpList_append_srcN _ rfl (.tmp 53) (.tmp 55) 70 rfl w1.heap.size 98 i0 (.agg #[.int .i64 0, .int .i64 0, .int .i64 0, .int .i64 0, .int .i64 0, .bool false, .int .i64 0, .bool false]) 8 64 (by decide) Try.underlying70 HZ.out.1 HZ.out.2.1 HZ.out.2.2.1 HZ.out.2.2.2 rfl _ (m + 1) ((rcTo xs hs (m + 1)).flatMap Flat.cells) rfl (HOW.out.alloc _) (some ⟨w8.heap.size, 0, none⟩) 1 1 (Rc.cs rc) rfl rfl (fun _ => ⟨_, rfl, rc_news (rcBx_at (rcBx_new _ _ _))⟩) (rc_one _) (by unfold maxLen; omega) (by omega) (by simp; omega) ?_; intro v1 w9 hown hgrow hat; have HST := Lib.hid (rc_step HOW.out (Below_next HB.out HB8.out) HRC.out hown hgrow); clear hown hgrow hat))
        go_roundw
        case rel => exact ⟨(m + 1) + 1, by omega, by go_num, HPS, Lib.hid HST.out.1, Lib.hid HST.out.2⟩
        case measure => simp [intOf]; omega
    · obtain rfl : k = hs.length := by omega
      have hyes := HP.out.all HK.out h60
      have HV := Lib.hid hyes
      have ho' : wr.ownsRow w1.heap.size 98 8 u6 (rcTo xs hs hs.length).length ((rcTo xs hs hs.length).flatMap Flat.cells) := by
        rw [rcTo_len]
        exact HO.out
      obtain ⟨R, d, rfl, hL⟩ := rcs_form ho'
      have HL := Lib.hid hL
      clear hyes ho' hL
      go_wp2
      go_returns
      exact ⟨⟨R, d, rcTo xs hs hs.length, by rw [pB_yes HV.out]; rfl, HL.out, fun _ => rfl, fun h => absurd HV.out h⟩, Below_next HB1.out HB.out⟩
theorem recordsOf_any (P : Option Addr) (c : Nat) (xs : List Im) (A : Option Addr) (ch : Nat) (hs : List Cg) (w : World) (hr : Ims w w.heap.size P xs) (hl : ImsFits xs) (hg : Lst w w.heap.size A hs) (hgl : hs.length ≤ 1048576) (hcap : hs.length ≤ ch ∧ ch ≤ 9223372036854775807) :
    Calls Try.prog 48 #[.slice P xs.length c, .slice A hs.length ch] w fun e w' => (∃ R d rs, e = .returned (.tuple #[.slice R rs.length d, .bool (pB (HiOk xs hs))]) ∧ Lst w' w'.heap.size R rs ∧ (HiOk xs hs → rs = rcTo xs hs hs.length) ∧ (¬ HiOk xs hs → rs = [])) ∧ Below w.heap.size w w' :=
  recordsOf_w P c xs A ch hs w hr hl hg (by omega) hcap
end Go.Proofs.Ythbkfekbpjkhnaa
