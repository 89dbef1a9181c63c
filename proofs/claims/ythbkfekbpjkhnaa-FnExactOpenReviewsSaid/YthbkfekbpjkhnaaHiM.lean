/- The model's run of a history. -/
import Derived.Test.YthbkfekbpjkhnaaHiL
import Derived.Deep.RegionHeld3
namespace Go.Proofs.Ythbkfekbpjkhnaa
open Go.ChangeShapes Go.WideShapes Go.ChangeAt Go.RowKit Go.Lib Go.Proofs Go.PlainAid
set_option linter.unusedVariables false

theorem change_any (xs : List Im) (hs : List Cg) (k B0 H : Nat) (w : World) (bx : Nat) (R : Option Addr) (d g : Nat) (G : Nat → Nat) (ys : List Im) (v : Value) (T : Nat → Nat) (os : List (Rw Bool)) (hS : HiSt B0 w bx R d g G ys v T os) (hI : StIs xs hs k ys os) (hL : ListOk xs) (ht : Tk1 (it hs k).tick) (hTH : ∀ a, a < os.length → T a < H) (hBH : bx ≤ H) :
    Calls Try.prog 81 #[.pointer (some ⟨bx, 0, none⟩), (it hs k).val] w (ChAns xs hs k B0 H w bx R d g G v T) := by
  by_cases h : NmAt xs (it hs k).item (it hs k).name ∧ (1 ≤ (it hs k).caller ∧ (it hs k).caller ≤ 9) ∧ MkOk (it hs k).mark
  · exact change_at xs hs k B0 H w bx R d g G ys v T os hS hI hL ht h.1 h.2.1 h.2.2 hTH hBH
  · exact change_no xs hs k B0 H w bx R d g G ys v T os hS hI hL ht h
theorem cg_step {xs : List Im} {hs : List Cg} {k : Nat} (h : CgAll xs hs k) (hk : CgOk xs hs k) : CgAll xs hs (k + 1) := fun j hj => by
  rcases Nat.lt_or_ge j k with q | q
  · exact h j q
  · obtain rfl : j = k := by omega
    exact hk
/-- The first k changes are no later than the tick. -/
theorem cu_step {hs : List Cg} {t : Int} {k : Nat} (h : cuT hs t k = k) (hk : (it hs k).tick ≤ t) : cuT hs t (k + 1) = k + 1 := if_pos ⟨h, hk⟩
theorem cuT_mono {hs : List Cg} {t : Int} {k : Nat} : ∀ {n : Nat}, k ≤ n → cuT hs t k ≤ cuT hs t n
  | 0, h => by
    obtain rfl : k = 0 := by omega
    exact Nat.le_refl _
  | n + 1, h => by
    rcases Nat.lt_or_ge n k with q | q
    · obtain rfl : k = n + 1 := by omega
      exact Nat.le_refl _
    · have h1 := cuT_mono (hs := hs) (t := t) q
      have h2 := cuT_le hs t n
      rw [cuT]
      split <;> omega
theorem cu_in {hs : List Cg} {t : Int} {k : Nat} (htk : TkAll hs) (h : cuT hs t k = k) (hk : (it hs k).tick ≤ t) (hl : k < hs.length) : k < cuT hs t hs.length := (cuT_iff htk t hl).1 hk
theorem cu_stop {hs : List Cg} {t : Int} {k : Nat} (htk : TkAll hs) (h : cuT hs t k = k) (hk : t < (it hs k).tick) (hl : k < hs.length) : cuT hs t hs.length = k := by
  have h1 := cuT_mono (hs := hs) (t := t) (Nat.le_of_lt hl)
  rcases Nat.lt_or_ge k (cuT hs t hs.length) with q | q
  · have := cuT_in q
    omega
  · omega
/-- What a run leaves: no history, or the state of its changes. -/
def RunAns (xs : List Im) (hs : List Cg) (t : Int) (w : World) (e : Ending) (w' : World) : Prop :=
  ∃ bx, (e = .returned (.tuple #[.pointer (some ⟨bx, 0, none⟩), .bool false]) ∧ ¬ CgAll xs hs (cuT hs t hs.length)) ∨
    (e = .returned (.tuple #[.pointer (some ⟨bx, 0, none⟩), .bool true]) ∧ CgAll xs hs (cuT hs t hs.length) ∧ ∃ R d g G ys v T os, HiSt w.heap.size w' bx R d g G ys v T os ∧ StIs xs hs (cuT hs t hs.length) ys os)
set_option maxHeartbeats 8000000 in
set_option maxRecDepth 100000 in
theorem hiRun_any (P : Option Addr) (c : Nat) (xs : List Im) (A : Option Addr) (ch : Nat) (hs : List Cg) (t : Int) (w : World) (hr : Ims w w.heap.size P xs) (hok : ListOk xs) (hg : Lst w w.heap.size A hs) (hgl : hs.length ≤ 1048576) (htk : TkAll hs) :
    Calls Try.prog 54 #[.slice P xs.length c, .slice A hs.length ch, .int .i64 t] w fun e w' => RunAns xs hs t w e w' ∧ Below w.heap.size w w' := by
  have HSA := Lib.hid (hiStart_any P c xs w hr hok)
  have HG := Lib.hid hg
  have HL := Lib.hid hok
  have HTK := Lib.hid htk
  clear hr hok hg htk
  unfold RunAns
  go_enter Try.func54, Try.ntmps54
  go_wp2_with fail
  refine HSA.out.mono ?_
  rintro e w1 ⟨⟨bx, R, d, g, G, ys, v, T, os, rfl, hst, hsm, hnf⟩, hb1⟩
  have HST := Lib.hid hst
  have HST0 := Lib.hid (StIs.start hs hsm HL.out hnf)
  have HB1 := Lib.hid hb1
  have HTH := Lib.hid (fun a (ha : a < os.length) => hst.op.hi a ha)
  have hbx1 := hst.hi
  have hw1 := hb1.size
  clear HSA hst hsm hnf hb1
  go_wp2_with fail
  go_loopw [15] (fun q wr => ∃ (k : Nat) (ys : List Im) (os : List (Rw Bool)), k ≤ hs.length ∧ q = .int .i64 k ∧ Hid (HiSt w.heap.size wr bx R d g G ys v T os) ∧ Hid (StIs xs hs k ys os) ∧ Hid (CgAll xs hs k) ∧ Hid (∀ a, a < os.length → T a < w1.heap.size) ∧ Hid (Below w.heap.size w wr) ∧ w1.heap.size ≤ wr.heap.size ∧ Hid (cuT hs t k = k)) (fun q _ => hs.length - (intOf q).toNat)
  case atStart => exact ⟨0, ys, os, Nat.zero_le _, rfl, HST, HST0, Lib.hid (fun j hj => absurd hj (by omega)), HTH, HB1, Nat.le_refl _, Lib.hid rfl⟩
  case round =>
    obtain ⟨k, ys, os, hk, rfl, HS, HI, HA, HTH, HB, hwr, HCU⟩ := hrel
    by_cases hlt : k < hs.length
    · have HGr := Lib.hid ((HG.out.below HB.out (Nat.le_refl _)))
      obtain ⟨b, o, rfl, hbl, hcc⟩ := HGr.out.cg (by omega)
      obtain ⟨c0, c1, c2, c3, c4, c5⟩ := hcc k hlt
      have HCC := Lib.hid (And.intro hbl hcc)
      have hi1 : (0 : Int) ≤ (k : Int) := by omega
      have hi2 : (k : Int) < (hs.length : Int) := by omega
      have htt := HTK.out k hlt
      clear hcc hbl
      by_cases ht : t < (it hs k).tick
      · have HE := Lib.hid (cu_stop HTK.out HCU.out ht hlt)
        clear htt
        go_wp2
        go_returns
        exact ⟨⟨bx, .inr ⟨rfl, by rw [HE.out]; exact HA.out, R, d, g, G, ys, v, T, os, HS.out.next (by go_grown), by rw [HE.out]; exact HI.out⟩⟩, Below_next HB.out (by go_grown)⟩
      have ht' : (it hs k).tick ≤ t := by omega
      have HTT := Lib.hid ht'
      go_wp2_with fail
      clear c0 c1 c2 c3 c4 c5
      have hb3 := below_alloc wr ((it hs k).obj 50)
      have hx3 := cgBx_new wr (it hs k) 50
      have hs3 : (wr.alloc ((it hs k).obj 50)).heap.size = wr.heap.size + 1 := by simp
      unfold Cg.obj at hb3 hx3 hs3
      generalize World.alloc wr _ = w3 at hb3 hx3 hs3 ⊢
      have hd3 := below_drew w3
      have hb3' := below_next hb3 hd3
      have HB3 := Lib.hid (hb3'.mono (show w.heap.size ≤ wr.heap.size from HB.out.size))
      have HX3 := Lib.hid (hx3.below hd3 (by omega))
      have hs3' : w3.drew.heap.size = wr.heap.size + 1 := hs3
      have hchange := change_any xs hs k w.heap.size w1.heap.size w3.drew bx R d g G ys v T os (HS.out.next hb3') HI.out HL.out ⟨htt.t0, htt.t1⟩ HTH.out (Nat.le_of_lt hbx1)
      have HUP := Lib.hid htt.up
      have hs3w : w1.heap.size ≤ w3.drew.heap.size := by omega
      have hcp := fun (m : Nat) (hm : m < hs.length) => ((HCC.out.2 m hm).below hb3' (Nat.lt_of_lt_of_le HCC.out.1 HB.out.size)).c0
      have HCP := Lib.hid hcp
      clear hx3 hs3 hd3 htt hb3 hb3' hcp
      rcases k with _ | m
      · have e0 : (((0 : Nat) : Nat) : Int) = 0 := rfl
        rw [e0]
        by_cases hok : CgOk xs hs 0
        rotate_left
        · have HV := Lib.hid (show ¬ CgAll xs hs (cuT hs t hs.length) from fun h => hok (h 0 (cu_in HTK.out HCU.out HTT.out hlt)))
          have HCH := Lib.hid (show Calls Try.prog 81 #[.pointer (some ⟨bx, 0, none⟩), (it hs 0).val] w3.drew _ from hchange)
          unfold ChAns at HCH
          rw [pB_no hok] at HCH
          unfold Cg.val at HCH
          clear hok hchange
          refine wp_region_held_drew (S := (fun w' => w'.cell? ⟨wr.heap.size, 0, none⟩ = some (.int .i64 (it hs 0).tick) ∧ w'.cell? ⟨wr.heap.size, 1, none⟩ = some (.int .i64 (it hs 0).caller) ∧ w'.cell? ⟨wr.heap.size, 2, none⟩ = some (.int .i64 (it hs 0).item) ∧ w'.cell? ⟨wr.heap.size, 3, none⟩ = some (.int .i64 (it hs 0).name) ∧ w'.cell? ⟨wr.heap.size, 4, none⟩ = some (.int .i64 (it hs 0).mark) ∧ w'.cell? ⟨wr.heap.size, 5, none⟩ = some (.bool (it hs 0).review))) (by kernel_rfl) ?_ (fun hHeld0 => ?_)
          · ((try dsimp only); exact HX3.out.all)
          refine wpAnyH_take (i := 0) (oi := _) (v := ?_) rfl (by kernel_rfl) (by kernel_rfl) (by kernel_rfl) (fun _ _ _ h => h) (Or.inl ⟨by rfl, ?_⟩) (by assumption) ?_
          rotate_left
          · (intro w hSw; (try dsimp only at hSw); go_simp; try with_reducible rfl)
          try simp only [Act.put, List.setIfInBounds_toArray, List.set_cons_zero, List.set_cons_succ, List.getElem_toArray, List.getElem_cons_zero]
          refine wpAnyH_take (i := 1) (oi := _) (v := ?_) rfl (by kernel_rfl) (by kernel_rfl) (by kernel_rfl) (fun _ _ _ h => h) (Or.inl ⟨by rfl, ?_⟩) (by assumption) ?_
          rotate_left
          · (intro w hSw; (try dsimp only at hSw); go_simp; try with_reducible rfl)
          try simp only [Act.put, List.setIfInBounds_toArray, List.set_cons_zero, List.set_cons_succ, List.getElem_toArray, List.getElem_cons_zero, List.getElem_cons_succ]
          refine wpAnyH_ready (rs := [2]) (by kernel_rfl) (by simp) ?_
          refine AllReadyH.cons rfl (fun K hK => ?_) ?_
          rotate_left
          · exact AllReadyH.nil
          go_simp
          go_wp2_with (go_at_call 81; refine HCH.out.mono ?_; rintro e w4 ⟨rfl, hst, hon⟩; have HB4 := Lib.hid hon; have HST4 := Lib.hid hst; have hx4 := HX3.out.keep (hon.block wr.heap.size (by omega) (fun q => by have := q.2; omega)); have HS4 := Lib.hid hx4.all; clear hst hon)
          refine hK.out _ _ ?_ (fun hHeld1 => ?_)
          · ((try dsimp only); exact HS4.out)
          clear hK K
          refine wpAnyH_take (i := 3) (oi := _) (v := ?_) rfl (by kernel_rfl) (by kernel_rfl) (by kernel_rfl) (fun _ _ _ h => h) (Or.inl ⟨by rfl, ?_⟩) (by assumption) ?_
          rotate_left
          · (intro w hSw; (try dsimp only at hSw); go_simp; try with_reducible rfl)
          try simp only [Act.put, List.setIfInBounds_toArray, List.set_cons_zero, List.set_cons_succ, List.getElem_toArray, List.getElem_cons_zero, List.getElem_cons_succ]
          refine wpAnyH_take (i := 4) (oi := _) (v := ?_) rfl (by kernel_rfl) (by kernel_rfl) (by kernel_rfl) (fun _ _ _ h => h) (Or.inl ⟨by rfl, ?_⟩) (by assumption) ?_
          rotate_left
          · (intro w hSw; (try dsimp only at hSw); go_simp; try with_reducible rfl)
          try simp only [Act.put, List.setIfInBounds_toArray, List.set_cons_zero, List.set_cons_succ, List.getElem_toArray, List.getElem_cons_zero, List.getElem_cons_succ]
          refine wpAnyH_take (i := 5) (oi := _) (v := undef) rfl (by kernel_rfl) (by kernel_rfl) (by kernel_rfl) (fun _ _ _ h => h) (Or.inr ⟨by rfl, rfl⟩) (by assumption) ?_
          try simp only [Act.put, List.setIfInBounds_toArray, List.set_cons_zero, List.set_cons_succ, List.getElem_toArray, List.getElem_cons_zero, List.getElem_cons_succ]
          refine wpAnyH_take (i := 6) (oi := _) (v := undef) rfl (by kernel_rfl) (by kernel_rfl) (by kernel_rfl) (fun _ _ _ h => h) (Or.inr ⟨by rfl, rfl⟩) (by assumption) ?_
          try simp only [Act.put, List.setIfInBounds_toArray, List.set_cons_zero, List.set_cons_succ, List.getElem_toArray, List.getElem_cons_zero, List.getElem_cons_succ]
          refine wpAnyH_take (i := 7) (oi := _) (v := undef) rfl (by kernel_rfl) (by kernel_rfl) (by kernel_rfl) (fun _ _ _ h => h) (Or.inr ⟨by rfl, rfl⟩) (by assumption) ?_
          try simp only [Act.put, List.setIfInBounds_toArray, List.set_cons_zero, List.set_cons_succ, List.getElem_toArray, List.getElem_cons_zero, List.getElem_cons_succ]
          refine wpAnyH_take (i := 8) (oi := _) (v := undef) rfl (by kernel_rfl) (by kernel_rfl) (by kernel_rfl) (fun _ _ _ h => h) (Or.inr ⟨by rfl, rfl⟩) (by assumption) ?_
          try simp only [Act.put, List.setIfInBounds_toArray, List.set_cons_zero, List.set_cons_succ, List.getElem_toArray, List.getElem_cons_zero, List.getElem_cons_succ]
          refine wpAnyH_take (i := 9) (oi := _) (v := undef) rfl (by kernel_rfl) (by kernel_rfl) (by kernel_rfl) (fun _ _ _ h => h) (Or.inr ⟨by rfl, rfl⟩) (by assumption) ?_
          try simp only [Act.put, List.setIfInBounds_toArray, List.set_cons_zero, List.set_cons_succ, List.getElem_toArray, List.getElem_cons_zero, List.getElem_cons_succ]
          refine wpAnyH_take (i := 10) (oi := _) (v := undef) rfl (by kernel_rfl) (by kernel_rfl) (by kernel_rfl) (fun _ _ _ h => h) (Or.inr ⟨by rfl, rfl⟩) (by assumption) ?_
          try simp only [Act.put, List.setIfInBounds_toArray, List.set_cons_zero, List.set_cons_succ, List.getElem_toArray, List.getElem_cons_zero, List.getElem_cons_succ]
          refine wpAnyH_take (i := 11) (oi := _) (v := undef) rfl (by kernel_rfl) (by kernel_rfl) (by kernel_rfl) (fun _ _ _ h => h) (Or.inr ⟨by rfl, rfl⟩) (by assumption) ?_
          try simp only [Act.put, List.setIfInBounds_toArray, List.set_cons_zero, List.set_cons_succ, List.getElem_toArray, List.getElem_cons_zero, List.getElem_cons_succ]
          refine wpAnyH_take (i := 12) (oi := _) (v := undef) rfl (by kernel_rfl) (by kernel_rfl) (by kernel_rfl) (fun _ _ _ h => h) (Or.inr ⟨by rfl, rfl⟩) (by assumption) ?_
          try simp only [Act.put, List.setIfInBounds_toArray, List.set_cons_zero, List.set_cons_succ, List.getElem_toArray, List.getElem_cons_zero, List.getElem_cons_succ]
          refine wpAnyH_take (i := 13) (oi := _) (v := undef) rfl (by kernel_rfl) (by kernel_rfl) (by kernel_rfl) (fun _ _ _ h => h) (Or.inr ⟨by rfl, rfl⟩) (by assumption) ?_
          try simp only [Act.put, List.setIfInBounds_toArray, List.set_cons_zero, List.set_cons_succ, List.getElem_toArray, List.getElem_cons_zero, List.getElem_cons_succ]
          refine wpAnyH_take (i := 14) (oi := _) (v := undef) rfl (by kernel_rfl) (by kernel_rfl) (by kernel_rfl) (fun _ _ _ h => h) (Or.inr ⟨by rfl, rfl⟩) (by assumption) ?_
          try simp only [Act.put, List.setIfInBounds_toArray, List.set_cons_zero, List.set_cons_succ, List.getElem_toArray, List.getElem_cons_zero, List.getElem_cons_succ]
          refine wpAnyH_take (i := 15) (oi := _) (v := undef) rfl (by kernel_rfl) (by kernel_rfl) (by kernel_rfl) (fun _ _ _ h => h) (Or.inr ⟨by rfl, rfl⟩) (by assumption) ?_
          try simp only [Act.put, List.setIfInBounds_toArray, List.set_cons_zero, List.set_cons_succ, List.getElem_toArray, List.getElem_cons_zero, List.getElem_cons_succ]
          refine wpAnyH_take (i := 16) (oi := _) (v := undef) rfl (by kernel_rfl) (by kernel_rfl) (by kernel_rfl) (fun _ _ _ h => h) (Or.inr ⟨by rfl, rfl⟩) (by assumption) ?_
          try simp only [Act.put, List.setIfInBounds_toArray, List.set_cons_zero, List.set_cons_succ, List.getElem_toArray, List.getElem_cons_zero, List.getElem_cons_succ]
          refine wpAnyH_take (i := 17) (oi := _) (v := undef) rfl (by kernel_rfl) (by kernel_rfl) (by kernel_rfl) (fun _ _ _ h => h) (Or.inr ⟨by rfl, rfl⟩) (by assumption) ?_
          try simp only [Act.put, List.setIfInBounds_toArray, List.set_cons_zero, List.set_cons_succ, List.getElem_toArray, List.getElem_cons_zero, List.getElem_cons_succ]
          refine wpAnyH_take (i := 18) (oi := _) (v := ?_) rfl (by kernel_rfl) (by kernel_rfl) (by kernel_rfl) (fun _ _ _ h => h) (Or.inl ⟨by rfl, ?_⟩) (by assumption) ?_
          rotate_left
          · (intro w hSw; (try dsimp only at hSw); go_simp; try with_reducible rfl)
          try simp only [Act.put, List.setIfInBounds_toArray, List.set_cons_zero, List.set_cons_succ, List.getElem_toArray, List.getElem_cons_zero, List.getElem_cons_succ]
          refine wpAnyH_done (by kernel_rfl) ?_ _
          go_wp2
          go_returns
          exact ⟨⟨bx, .inl ⟨rfl, HV.out⟩⟩, HB.out.trans (HB3.out.trans ((HB4.out.below (B := w.heap.size) (by omega) (fun q hq => hq.1))))⟩
        have HOK := Lib.hid hok
        have HCH := Lib.hid (show Calls Try.prog 81 #[.pointer (some ⟨bx, 0, none⟩), (it hs 0).val] w3.drew _ from hchange)
        unfold ChAns at HCH
        rw [pB_yes hok] at HCH
        unfold Cg.val at HCH
        clear hok hchange
        refine wp_region_held_drew (S := (fun w' => w'.cell? ⟨wr.heap.size, 0, none⟩ = some (.int .i64 (it hs 0).tick) ∧ w'.cell? ⟨wr.heap.size, 1, none⟩ = some (.int .i64 (it hs 0).caller) ∧ w'.cell? ⟨wr.heap.size, 2, none⟩ = some (.int .i64 (it hs 0).item) ∧ w'.cell? ⟨wr.heap.size, 3, none⟩ = some (.int .i64 (it hs 0).name) ∧ w'.cell? ⟨wr.heap.size, 4, none⟩ = some (.int .i64 (it hs 0).mark) ∧ w'.cell? ⟨wr.heap.size, 5, none⟩ = some (.bool (it hs 0).review))) (by kernel_rfl) ?_ (fun hHeld0 => ?_)
        · ((try dsimp only); exact HX3.out.all)
        refine wpAnyH_take (i := 0) (oi := _) (v := ?_) rfl (by kernel_rfl) (by kernel_rfl) (by kernel_rfl) (fun _ _ _ h => h) (Or.inl ⟨by rfl, ?_⟩) (by assumption) ?_
        rotate_left
        · (intro w hSw; (try dsimp only at hSw); go_simp; try with_reducible rfl)
        try simp only [Act.put, List.setIfInBounds_toArray, List.set_cons_zero, List.set_cons_succ, List.getElem_toArray, List.getElem_cons_zero]
        refine wpAnyH_take (i := 1) (oi := _) (v := ?_) rfl (by kernel_rfl) (by kernel_rfl) (by kernel_rfl) (fun _ _ _ h => h) (Or.inl ⟨by rfl, ?_⟩) (by assumption) ?_
        rotate_left
        · (intro w hSw; (try dsimp only at hSw); go_simp; try with_reducible rfl)
        try simp only [Act.put, List.setIfInBounds_toArray, List.set_cons_zero, List.set_cons_succ, List.getElem_toArray, List.getElem_cons_zero, List.getElem_cons_succ]
        refine wpAnyH_ready (rs := [2]) (by kernel_rfl) (by simp) ?_
        refine AllReadyH.cons rfl (fun K hK => ?_) ?_
        rotate_left
        · exact AllReadyH.nil
        go_simp
        go_wp2_with (go_at_call 81; refine HCH.out.mono ?_; rintro e w4 ⟨rfl, hst, hon⟩; have HB4 := Lib.hid hon; have HST4 := Lib.hid hst; have hx4 := HX3.out.keep (hon.block wr.heap.size (by omega) (fun q => by have := q.2; omega)); have HS4 := Lib.hid hx4.all; clear hst hon)
        refine hK.out _ _ ?_ (fun hHeld1 => ?_)
        · ((try dsimp only); exact HS4.out)
        clear hK K
        refine wpAnyH_take (i := 3) (oi := _) (v := ?_) rfl (by kernel_rfl) (by kernel_rfl) (by kernel_rfl) (fun _ _ _ h => h) (Or.inl ⟨by rfl, ?_⟩) (by assumption) ?_
        rotate_left
        · (intro w hSw; (try dsimp only at hSw); go_simp; try with_reducible rfl)
        try simp only [Act.put, List.setIfInBounds_toArray, List.set_cons_zero, List.set_cons_succ, List.getElem_toArray, List.getElem_cons_zero, List.getElem_cons_succ]
        refine wpAnyH_take (i := 4) (oi := _) (v := ?_) rfl (by kernel_rfl) (by kernel_rfl) (by kernel_rfl) (fun _ _ _ h => h) (Or.inl ⟨by rfl, ?_⟩) (by assumption) ?_
        rotate_left
        · (intro w hSw; (try dsimp only at hSw); go_simp; try with_reducible rfl)
        try simp only [Act.put, List.setIfInBounds_toArray, List.set_cons_zero, List.set_cons_succ, List.getElem_toArray, List.getElem_cons_zero, List.getElem_cons_succ]
        refine wpAnyH_take (i := 5) (oi := _) (v := ?_) rfl (by kernel_rfl) (by kernel_rfl) (by kernel_rfl) (fun _ _ _ h => h) (Or.inl ⟨by rfl, ?_⟩) (by assumption) ?_
        rotate_left
        · (intro w hSw; (try dsimp only at hSw); go_simp; try with_reducible rfl)
        try simp only [Act.put, List.setIfInBounds_toArray, List.set_cons_zero, List.set_cons_succ, List.getElem_toArray, List.getElem_cons_zero, List.getElem_cons_succ]
        refine wpAnyH_take (i := 6) (oi := _) (v := ?_) rfl (by kernel_rfl) (by kernel_rfl) (by kernel_rfl) (fun _ _ _ h => h) (Or.inl ⟨by rfl, ?_⟩) (by assumption) ?_
        rotate_left
        · (intro w hSw; (try dsimp only at hSw); go_simp; try with_reducible rfl)
        try simp only [Act.put, List.setIfInBounds_toArray, List.set_cons_zero, List.set_cons_succ, List.getElem_toArray, List.getElem_cons_zero, List.getElem_cons_succ]
        refine wpAnyH_take (i := 7) (oi := _) (v := ?_) rfl (by kernel_rfl) (by kernel_rfl) (by kernel_rfl) (fun _ _ _ h => h) (Or.inl ⟨by rfl, ?_⟩) (by assumption) ?_
        rotate_left
        · (intro w hSw; (try dsimp only at hSw); go_simp; try with_reducible rfl)
        try simp only [Act.put, List.setIfInBounds_toArray, List.set_cons_zero, List.set_cons_succ, List.getElem_toArray, List.getElem_cons_zero, List.getElem_cons_succ]
        refine wpAnyH_take (i := 8) (oi := _) (v := undef) rfl (by kernel_rfl) (by kernel_rfl) (by kernel_rfl) (fun _ _ _ h => h) (Or.inr ⟨by rfl, rfl⟩) (by assumption) ?_
        try simp only [Act.put, List.setIfInBounds_toArray, List.set_cons_zero, List.set_cons_succ, List.getElem_toArray, List.getElem_cons_zero, List.getElem_cons_succ]
        refine wpAnyH_take (i := 9) (oi := _) (v := undef) rfl (by kernel_rfl) (by kernel_rfl) (by kernel_rfl) (fun _ _ _ h => h) (Or.inr ⟨by rfl, rfl⟩) (by assumption) ?_
        try simp only [Act.put, List.setIfInBounds_toArray, List.set_cons_zero, List.set_cons_succ, List.getElem_toArray, List.getElem_cons_zero, List.getElem_cons_succ]
        refine wpAnyH_take (i := 10) (oi := _) (v := undef) rfl (by kernel_rfl) (by kernel_rfl) (by kernel_rfl) (fun _ _ _ h => h) (Or.inr ⟨by rfl, rfl⟩) (by assumption) ?_
        try simp only [Act.put, List.setIfInBounds_toArray, List.set_cons_zero, List.set_cons_succ, List.getElem_toArray, List.getElem_cons_zero, List.getElem_cons_succ]
        refine wpAnyH_take (i := 11) (oi := _) (v := undef) rfl (by kernel_rfl) (by kernel_rfl) (by kernel_rfl) (fun _ _ _ h => h) (Or.inr ⟨by rfl, rfl⟩) (by assumption) ?_
        try simp only [Act.put, List.setIfInBounds_toArray, List.set_cons_zero, List.set_cons_succ, List.getElem_toArray, List.getElem_cons_zero, List.getElem_cons_succ]
        refine wpAnyH_take (i := 12) (oi := _) (v := undef) rfl (by kernel_rfl) (by kernel_rfl) (by kernel_rfl) (fun _ _ _ h => h) (Or.inr ⟨by rfl, rfl⟩) (by assumption) ?_
        try simp only [Act.put, List.setIfInBounds_toArray, List.set_cons_zero, List.set_cons_succ, List.getElem_toArray, List.getElem_cons_zero, List.getElem_cons_succ]
        refine wpAnyH_take (i := 13) (oi := _) (v := undef) rfl (by kernel_rfl) (by kernel_rfl) (by kernel_rfl) (fun _ _ _ h => h) (Or.inr ⟨by rfl, rfl⟩) (by assumption) ?_
        try simp only [Act.put, List.setIfInBounds_toArray, List.set_cons_zero, List.set_cons_succ, List.getElem_toArray, List.getElem_cons_zero, List.getElem_cons_succ]
        refine wpAnyH_take (i := 14) (oi := _) (v := undef) rfl (by kernel_rfl) (by kernel_rfl) (by kernel_rfl) (fun _ _ _ h => h) (Or.inr ⟨by rfl, rfl⟩) (by assumption) ?_
        try simp only [Act.put, List.setIfInBounds_toArray, List.set_cons_zero, List.set_cons_succ, List.getElem_toArray, List.getElem_cons_zero, List.getElem_cons_succ]
        refine wpAnyH_take (i := 15) (oi := _) (v := undef) rfl (by kernel_rfl) (by kernel_rfl) (by kernel_rfl) (fun _ _ _ h => h) (Or.inr ⟨by rfl, rfl⟩) (by assumption) ?_
        try simp only [Act.put, List.setIfInBounds_toArray, List.set_cons_zero, List.set_cons_succ, List.getElem_toArray, List.getElem_cons_zero, List.getElem_cons_succ]
        refine wpAnyH_take (i := 16) (oi := _) (v := undef) rfl (by kernel_rfl) (by kernel_rfl) (by kernel_rfl) (fun _ _ _ h => h) (Or.inr ⟨by rfl, rfl⟩) (by assumption) ?_
        try simp only [Act.put, List.setIfInBounds_toArray, List.set_cons_zero, List.set_cons_succ, List.getElem_toArray, List.getElem_cons_zero, List.getElem_cons_succ]
        refine wpAnyH_take (i := 17) (oi := _) (v := ?_) rfl (by kernel_rfl) (by kernel_rfl) (by kernel_rfl) (fun _ _ _ h => h) (Or.inl ⟨by rfl, ?_⟩) (by assumption) ?_
        rotate_left
        · (intro w hSw; (try dsimp only at hSw); go_simp; try with_reducible rfl)
        try simp only [Act.put, List.setIfInBounds_toArray, List.set_cons_zero, List.set_cons_succ, List.getElem_toArray, List.getElem_cons_zero, List.getElem_cons_succ]
        refine wpAnyH_take (i := 18) (oi := _) (v := ?_) rfl (by kernel_rfl) (by kernel_rfl) (by kernel_rfl) (fun _ _ _ h => h) (Or.inl ⟨by rfl, ?_⟩) (by assumption) ?_
        rotate_left
        · (intro w hSw; (try dsimp only at hSw); go_simp; try with_reducible rfl)
        try simp only [Act.put, List.setIfInBounds_toArray, List.set_cons_zero, List.set_cons_succ, List.getElem_toArray, List.getElem_cons_zero, List.getElem_cons_succ]
        refine wpAnyH_done (by kernel_rfl) ?_ _
        obtain ⟨ys', os', hs4, hi4⟩ := HST4.out HOK.out
        have HS5 := Lib.hid hs4
        have HI5 := Lib.hid hi4
        clear hs4 hi4
        go_wp2
        go_roundw
        case rel => exact ⟨0 + 1, ys', os', by omega, by go_num, HS5, HI5, Lib.hid (cg_step HA.out HOK.out), Lib.hid (fun a ha => HTH.out a (by have := HI5.out.ol; have := HI.out.ol; omega)), Lib.hid (HB.out.trans (HB3.out.trans (HB4.out.below (B := w.heap.size) (by omega) (fun q hq => hq.1)))), by have := HB4.out.size; omega, Lib.hid (cu_step HCU.out HTT.out)⟩
        case measure => simp [intOf]; omega
      have cp := HCP.out m (by omega)
      have hup := HUP.out (by omega)
      rw [show m + 1 - 1 = m from rfl] at hup
      have e0 : ((m + 1 : Nat) : Int) = (m : Int) + 1 := by omega
      have k1 : (0 : Int) ≤ (m : Int) := by omega
      have k2 : (m : Int) < (hs.length : Int) := by omega
      have k0 : (0 : Int) < (m : Int) + 1 := by omega
      have kw : IntKind.i64.wrap (m : Int) = (m : Int) := IntWalk.i64_in _ (by omega)
      clear hi1 hi2
      rw [e0]
      have HSm := Lib.hid (show _ ∧ _ ∧ _ ∧ _ ∧ _ ∧ _ ∧ _ from ⟨HX3.out.c0, HX3.out.c1, HX3.out.c2, HX3.out.c3, HX3.out.c4, HX3.out.c5, cp⟩)
      by_cases hok : CgOk xs hs (m + 1)
      rotate_left
      · have HV := Lib.hid (show ¬ CgAll xs hs (cuT hs t hs.length) from fun h => hok (h (m + 1) (cu_in HTK.out HCU.out HTT.out hlt)))
        have HCH := Lib.hid (show Calls Try.prog 81 #[.pointer (some ⟨bx, 0, none⟩), (it hs (m + 1)).val] w3.drew _ from hchange)
        unfold ChAns at HCH
        rw [pB_no hok] at HCH
        unfold Cg.val at HCH
        clear hok hchange
        refine wp_region_held_drew (S := (fun w' => w'.cell? ⟨wr.heap.size, 0, none⟩ = some (.int .i64 (it hs (m + 1)).tick) ∧ w'.cell? ⟨wr.heap.size, 1, none⟩ = some (.int .i64 (it hs (m + 1)).caller) ∧ w'.cell? ⟨wr.heap.size, 2, none⟩ = some (.int .i64 (it hs (m + 1)).item) ∧ w'.cell? ⟨wr.heap.size, 3, none⟩ = some (.int .i64 (it hs (m + 1)).name) ∧ w'.cell? ⟨wr.heap.size, 4, none⟩ = some (.int .i64 (it hs (m + 1)).mark) ∧ w'.cell? ⟨wr.heap.size, 5, none⟩ = some (.bool (it hs (m + 1)).review) ∧ w'.cell? ⟨b, o + m * 6, none⟩ = some (.int .i64 (it hs m).tick))) (by kernel_rfl) ?_ (fun hHeld0 => ?_)
        · ((try dsimp only); exact HSm.out)
        refine wpAnyH_take (i := 0) (oi := _) (v := ?_) rfl (by kernel_rfl) (by kernel_rfl) (by kernel_rfl) (fun _ _ _ h => h) (Or.inl ⟨by rfl, ?_⟩) (by assumption) ?_
        rotate_left
        · (intro w hSw; (try dsimp only at hSw); go_simp; try with_reducible rfl)
        try simp only [Act.put, List.setIfInBounds_toArray, List.set_cons_zero, List.set_cons_succ, List.getElem_toArray, List.getElem_cons_zero]
        refine wpAnyH_take (i := 1) (oi := _) (v := ?_) rfl (by kernel_rfl) (by kernel_rfl) (by kernel_rfl) (fun _ _ _ h => h) (Or.inl ⟨by rfl, ?_⟩) (by assumption) ?_
        rotate_left
        · (intro w hSw; (try dsimp only at hSw); go_simp; try with_reducible rfl)
        try simp only [Act.put, List.setIfInBounds_toArray, List.set_cons_zero, List.set_cons_succ, List.getElem_toArray, List.getElem_cons_zero, List.getElem_cons_succ]
        refine wpAnyH_ready (rs := [2]) (by kernel_rfl) (by simp) ?_
        refine AllReadyH.cons rfl (fun K hK => ?_) ?_
        rotate_left
        · exact AllReadyH.nil
        go_simp
        go_wp2_with (go_at_call 81; refine HCH.out.mono ?_; rintro e w4 ⟨rfl, hst, hon⟩; have HB4 := Lib.hid hon; have HST4 := Lib.hid hst; have hx4 := HX3.out.keep (hon.block wr.heap.size (by omega) (fun q => by have := q.2; omega)); have cp4 := (World.cell?_of_block (a := ⟨b, o + m * 6, none⟩) (hon.block b (by have := HCC.out.1; omega) (fun q => by have := HCC.out.1; have := q.1; omega))).trans cp; have HS4 := Lib.hid (show _ ∧ _ ∧ _ ∧ _ ∧ _ ∧ _ ∧ _ from ⟨hx4.c0, hx4.c1, hx4.c2, hx4.c3, hx4.c4, hx4.c5, cp4⟩); clear hst hon)
        refine hK.out _ _ ?_ (fun hHeld1 => ?_)
        · ((try dsimp only); exact HS4.out)
        clear hK K
        refine wpAnyH_take (i := 3) (oi := _) (v := ?_) rfl (by kernel_rfl) (by kernel_rfl) (by kernel_rfl) (fun _ _ _ h => h) (Or.inl ⟨by rfl, ?_⟩) (by assumption) ?_
        rotate_left
        · (intro w hSw; (try dsimp only at hSw); go_simp; try with_reducible rfl)
        try simp only [Act.put, List.setIfInBounds_toArray, List.set_cons_zero, List.set_cons_succ, List.getElem_toArray, List.getElem_cons_zero, List.getElem_cons_succ]
        refine wpAnyH_take (i := 4) (oi := _) (v := ?_) rfl (by kernel_rfl) (by kernel_rfl) (by kernel_rfl) (fun _ _ _ h => h) (Or.inl ⟨by rfl, ?_⟩) (by assumption) ?_
        rotate_left
        · (intro w hSw; (try dsimp only at hSw); go_simp; try with_reducible rfl)
        try simp only [Act.put, List.setIfInBounds_toArray, List.set_cons_zero, List.set_cons_succ, List.getElem_toArray, List.getElem_cons_zero, List.getElem_cons_succ]
        refine wpAnyH_take (i := 5) (oi := _) (v := undef) rfl (by kernel_rfl) (by kernel_rfl) (by kernel_rfl) (fun _ _ _ h => h) (Or.inr ⟨by rfl, rfl⟩) (by assumption) ?_
        try simp only [Act.put, List.setIfInBounds_toArray, List.set_cons_zero, List.set_cons_succ, List.getElem_toArray, List.getElem_cons_zero, List.getElem_cons_succ]
        refine wpAnyH_take (i := 6) (oi := _) (v := undef) rfl (by kernel_rfl) (by kernel_rfl) (by kernel_rfl) (fun _ _ _ h => h) (Or.inr ⟨by rfl, rfl⟩) (by assumption) ?_
        try simp only [Act.put, List.setIfInBounds_toArray, List.set_cons_zero, List.set_cons_succ, List.getElem_toArray, List.getElem_cons_zero, List.getElem_cons_succ]
        refine wpAnyH_take (i := 7) (oi := _) (v := undef) rfl (by kernel_rfl) (by kernel_rfl) (by kernel_rfl) (fun _ _ _ h => h) (Or.inr ⟨by rfl, rfl⟩) (by assumption) ?_
        try simp only [Act.put, List.setIfInBounds_toArray, List.set_cons_zero, List.set_cons_succ, List.getElem_toArray, List.getElem_cons_zero, List.getElem_cons_succ]
        refine wpAnyH_take (i := 8) (oi := _) (v := undef) rfl (by kernel_rfl) (by kernel_rfl) (by kernel_rfl) (fun _ _ _ h => h) (Or.inr ⟨by rfl, rfl⟩) (by assumption) ?_
        try simp only [Act.put, List.setIfInBounds_toArray, List.set_cons_zero, List.set_cons_succ, List.getElem_toArray, List.getElem_cons_zero, List.getElem_cons_succ]
        refine wpAnyH_take (i := 9) (oi := _) (v := undef) rfl (by kernel_rfl) (by kernel_rfl) (by kernel_rfl) (fun _ _ _ h => h) (Or.inr ⟨by rfl, rfl⟩) (by assumption) ?_
        try simp only [Act.put, List.setIfInBounds_toArray, List.set_cons_zero, List.set_cons_succ, List.getElem_toArray, List.getElem_cons_zero, List.getElem_cons_succ]
        refine wpAnyH_take (i := 10) (oi := _) (v := undef) rfl (by kernel_rfl) (by kernel_rfl) (by kernel_rfl) (fun _ _ _ h => h) (Or.inr ⟨by rfl, rfl⟩) (by assumption) ?_
        try simp only [Act.put, List.setIfInBounds_toArray, List.set_cons_zero, List.set_cons_succ, List.getElem_toArray, List.getElem_cons_zero, List.getElem_cons_succ]
        refine wpAnyH_take (i := 11) (oi := _) (v := undef) rfl (by kernel_rfl) (by kernel_rfl) (by kernel_rfl) (fun _ _ _ h => h) (Or.inr ⟨by rfl, rfl⟩) (by assumption) ?_
        try simp only [Act.put, List.setIfInBounds_toArray, List.set_cons_zero, List.set_cons_succ, List.getElem_toArray, List.getElem_cons_zero, List.getElem_cons_succ]
        refine wpAnyH_take (i := 12) (oi := _) (v := undef) rfl (by kernel_rfl) (by kernel_rfl) (by kernel_rfl) (fun _ _ _ h => h) (Or.inr ⟨by rfl, rfl⟩) (by assumption) ?_
        try simp only [Act.put, List.setIfInBounds_toArray, List.set_cons_zero, List.set_cons_succ, List.getElem_toArray, List.getElem_cons_zero, List.getElem_cons_succ]
        refine wpAnyH_take (i := 13) (oi := _) (v := undef) rfl (by kernel_rfl) (by kernel_rfl) (by kernel_rfl) (fun _ _ _ h => h) (Or.inr ⟨by rfl, rfl⟩) (by assumption) ?_
        try simp only [Act.put, List.setIfInBounds_toArray, List.set_cons_zero, List.set_cons_succ, List.getElem_toArray, List.getElem_cons_zero, List.getElem_cons_succ]
        refine wpAnyH_take (i := 14) (oi := _) (v := undef) rfl (by kernel_rfl) (by kernel_rfl) (by kernel_rfl) (fun _ _ _ h => h) (Or.inr ⟨by rfl, rfl⟩) (by assumption) ?_
        try simp only [Act.put, List.setIfInBounds_toArray, List.set_cons_zero, List.set_cons_succ, List.getElem_toArray, List.getElem_cons_zero, List.getElem_cons_succ]
        refine wpAnyH_take (i := 15) (oi := _) (v := undef) rfl (by kernel_rfl) (by kernel_rfl) (by kernel_rfl) (fun _ _ _ h => h) (Or.inr ⟨by rfl, rfl⟩) (by assumption) ?_
        try simp only [Act.put, List.setIfInBounds_toArray, List.set_cons_zero, List.set_cons_succ, List.getElem_toArray, List.getElem_cons_zero, List.getElem_cons_succ]
        refine wpAnyH_take (i := 16) (oi := _) (v := undef) rfl (by kernel_rfl) (by kernel_rfl) (by kernel_rfl) (fun _ _ _ h => h) (Or.inr ⟨by rfl, rfl⟩) (by assumption) ?_
        try simp only [Act.put, List.setIfInBounds_toArray, List.set_cons_zero, List.set_cons_succ, List.getElem_toArray, List.getElem_cons_zero, List.getElem_cons_succ]
        refine wpAnyH_take (i := 17) (oi := _) (v := undef) rfl (by kernel_rfl) (by kernel_rfl) (by kernel_rfl) (fun _ _ _ h => h) (Or.inr ⟨by rfl, rfl⟩) (by assumption) ?_
        try simp only [Act.put, List.setIfInBounds_toArray, List.set_cons_zero, List.set_cons_succ, List.getElem_toArray, List.getElem_cons_zero, List.getElem_cons_succ]
        refine wpAnyH_take (i := 18) (oi := _) (v := ?_) rfl (by kernel_rfl) (by kernel_rfl) (by kernel_rfl) (fun _ _ _ h => h) (Or.inl ⟨by rfl, ?_⟩) (by assumption) ?_
        rotate_left
        · (intro w hSw; (try dsimp only at hSw); go_simp; try with_reducible rfl)
        try simp only [Act.put, List.setIfInBounds_toArray, List.set_cons_zero, List.set_cons_succ, List.getElem_toArray, List.getElem_cons_zero, List.getElem_cons_succ]
        refine wpAnyH_done (by kernel_rfl) ?_ _
        go_wp2
        go_returns
        exact ⟨⟨bx, .inl ⟨rfl, HV.out⟩⟩, HB.out.trans (HB3.out.trans ((HB4.out.below (B := w.heap.size) (by omega) (fun q hq => hq.1))))⟩
      have HOK := Lib.hid hok
      have HCH := Lib.hid (show Calls Try.prog 81 #[.pointer (some ⟨bx, 0, none⟩), (it hs (m + 1)).val] w3.drew _ from hchange)
      unfold ChAns at HCH
      rw [pB_yes hok] at HCH
      unfold Cg.val at HCH
      clear hok hchange
      refine wp_region_held_drew (S := (fun w' => w'.cell? ⟨wr.heap.size, 0, none⟩ = some (.int .i64 (it hs (m + 1)).tick) ∧ w'.cell? ⟨wr.heap.size, 1, none⟩ = some (.int .i64 (it hs (m + 1)).caller) ∧ w'.cell? ⟨wr.heap.size, 2, none⟩ = some (.int .i64 (it hs (m + 1)).item) ∧ w'.cell? ⟨wr.heap.size, 3, none⟩ = some (.int .i64 (it hs (m + 1)).name) ∧ w'.cell? ⟨wr.heap.size, 4, none⟩ = some (.int .i64 (it hs (m + 1)).mark) ∧ w'.cell? ⟨wr.heap.size, 5, none⟩ = some (.bool (it hs (m + 1)).review) ∧ w'.cell? ⟨b, o + m * 6, none⟩ = some (.int .i64 (it hs m).tick))) (by kernel_rfl) ?_ (fun hHeld0 => ?_)
      · ((try dsimp only); exact HSm.out)
      refine wpAnyH_take (i := 0) (oi := _) (v := ?_) rfl (by kernel_rfl) (by kernel_rfl) (by kernel_rfl) (fun _ _ _ h => h) (Or.inl ⟨by rfl, ?_⟩) (by assumption) ?_
      rotate_left
      · (intro w hSw; (try dsimp only at hSw); go_simp; try with_reducible rfl)
      try simp only [Act.put, List.setIfInBounds_toArray, List.set_cons_zero, List.set_cons_succ, List.getElem_toArray, List.getElem_cons_zero]
      refine wpAnyH_take (i := 1) (oi := _) (v := ?_) rfl (by kernel_rfl) (by kernel_rfl) (by kernel_rfl) (fun _ _ _ h => h) (Or.inl ⟨by rfl, ?_⟩) (by assumption) ?_
      rotate_left
      · (intro w hSw; (try dsimp only at hSw); go_simp; try with_reducible rfl)
      try simp only [Act.put, List.setIfInBounds_toArray, List.set_cons_zero, List.set_cons_succ, List.getElem_toArray, List.getElem_cons_zero, List.getElem_cons_succ]
      refine wpAnyH_ready (rs := [2]) (by kernel_rfl) (by simp) ?_
      refine AllReadyH.cons rfl (fun K hK => ?_) ?_
      rotate_left
      · exact AllReadyH.nil
      go_simp
      go_wp2_with (go_at_call 81; refine HCH.out.mono ?_; rintro e w4 ⟨rfl, hst, hon⟩; have HB4 := Lib.hid hon; have HST4 := Lib.hid hst; have hx4 := HX3.out.keep (hon.block wr.heap.size (by omega) (fun q => by have := q.2; omega)); have cp4 := (World.cell?_of_block (a := ⟨b, o + m * 6, none⟩) (hon.block b (by have := HCC.out.1; omega) (fun q => by have := HCC.out.1; have := q.1; omega))).trans cp; have HS4 := Lib.hid (show _ ∧ _ ∧ _ ∧ _ ∧ _ ∧ _ ∧ _ from ⟨hx4.c0, hx4.c1, hx4.c2, hx4.c3, hx4.c4, hx4.c5, cp4⟩); clear hst hon)
      refine hK.out _ _ ?_ (fun hHeld1 => ?_)
      · ((try dsimp only); exact HS4.out)
      clear hK K
      refine wpAnyH_take (i := 3) (oi := _) (v := ?_) rfl (by kernel_rfl) (by kernel_rfl) (by kernel_rfl) (fun _ _ _ h => h) (Or.inl ⟨by rfl, ?_⟩) (by assumption) ?_
      rotate_left
      · (intro w hSw; (try dsimp only at hSw); go_simp; try with_reducible rfl)
      try simp only [Act.put, List.setIfInBounds_toArray, List.set_cons_zero, List.set_cons_succ, List.getElem_toArray, List.getElem_cons_zero, List.getElem_cons_succ]
      refine wpAnyH_take (i := 4) (oi := _) (v := ?_) rfl (by kernel_rfl) (by kernel_rfl) (by kernel_rfl) (fun _ _ _ h => h) (Or.inl ⟨by rfl, ?_⟩) (by assumption) ?_
      rotate_left
      · (intro w hSw; (try dsimp only at hSw); go_simp; try with_reducible rfl)
      try simp only [Act.put, List.setIfInBounds_toArray, List.set_cons_zero, List.set_cons_succ, List.getElem_toArray, List.getElem_cons_zero, List.getElem_cons_succ]
      refine wpAnyH_take (i := 5) (oi := _) (v := ?_) rfl (by kernel_rfl) (by kernel_rfl) (by kernel_rfl) (fun _ _ _ h => h) (Or.inl ⟨by rfl, ?_⟩) (by assumption) ?_
      rotate_left
      · (intro w hSw; (try dsimp only at hSw); go_simp; try with_reducible rfl)
      try simp only [Act.put, List.setIfInBounds_toArray, List.set_cons_zero, List.set_cons_succ, List.getElem_toArray, List.getElem_cons_zero, List.getElem_cons_succ]
      refine wpAnyH_take (i := 6) (oi := _) (v := ?_) rfl (by kernel_rfl) (by kernel_rfl) (by kernel_rfl) (fun _ _ _ h => h) (Or.inl ⟨by rfl, ?_⟩) (by assumption) ?_
      rotate_left
      · (intro w hSw; (try dsimp only at hSw); go_simp; try with_reducible rfl)
      try simp only [Act.put, List.setIfInBounds_toArray, List.set_cons_zero, List.set_cons_succ, List.getElem_toArray, List.getElem_cons_zero, List.getElem_cons_succ]
      refine wpAnyH_take (i := 7) (oi := _) (v := ?_) rfl (by kernel_rfl) (by kernel_rfl) (by kernel_rfl) (fun _ _ _ h => h) (Or.inl ⟨by rfl, ?_⟩) (by assumption) ?_
      rotate_left
      · (intro w hSw; (try dsimp only at hSw); go_simp; try with_reducible rfl)
      try simp only [Act.put, List.setIfInBounds_toArray, List.set_cons_zero, List.set_cons_succ, List.getElem_toArray, List.getElem_cons_zero, List.getElem_cons_succ]
      refine wpAnyH_take (i := 8) (oi := _) (v := ?_) rfl (by kernel_rfl) (by kernel_rfl) (by kernel_rfl) (fun _ _ _ h => h) (Or.inl ⟨by rfl, ?_⟩) (by assumption) ?_
      rotate_left
      · (intro w hSw; (try dsimp only at hSw); go_simp; try with_reducible rfl)
      try simp only [Act.put, List.setIfInBounds_toArray, List.set_cons_zero, List.set_cons_succ, List.getElem_toArray, List.getElem_cons_zero, List.getElem_cons_succ]
      refine wpAnyH_take (i := 9) (oi := _) (v := ?_) rfl (by kernel_rfl) (by kernel_rfl) (by kernel_rfl) (fun _ _ _ h => h) (Or.inl ⟨by rfl, ?_⟩) (by assumption) ?_
      rotate_left
      · (intro w hSw; (try dsimp only at hSw); go_simp; try with_reducible rfl)
      try simp only [Act.put, List.setIfInBounds_toArray, List.set_cons_zero, List.set_cons_succ, List.getElem_toArray, List.getElem_cons_zero, List.getElem_cons_succ]
      refine wpAnyH_take (i := 10) (oi := _) (v := ?_) rfl (by kernel_rfl) (by kernel_rfl) (by kernel_rfl) (fun _ _ _ h => h) (Or.inl ⟨by rfl, ?_⟩) (by assumption) ?_
      rotate_left
      · (intro w hSw; (try dsimp only at hSw); go_simp; try with_reducible rfl)
      try simp only [Act.put, List.setIfInBounds_toArray, List.set_cons_zero, List.set_cons_succ, List.getElem_toArray, List.getElem_cons_zero, List.getElem_cons_succ]
      refine wpAnyH_take (i := 11) (oi := _) (v := ?_) rfl (by kernel_rfl) (by kernel_rfl) (by kernel_rfl) (fun _ _ _ h => h) (Or.inl ⟨by rfl, ?_⟩) (by assumption) ?_
      rotate_left
      · (intro w hSw; (try dsimp only at hSw); go_simp; try with_reducible rfl)
      try simp only [Act.put, List.setIfInBounds_toArray, List.set_cons_zero, List.set_cons_succ, List.getElem_toArray, List.getElem_cons_zero, List.getElem_cons_succ]
      refine wpAnyH_take (i := 12) (oi := _) (v := ?_) rfl (by kernel_rfl) (by kernel_rfl) (by kernel_rfl) (fun _ _ _ h => h) (Or.inl ⟨by rfl, ?_⟩) (by assumption) ?_
      rotate_left
      · (intro w hSw; (try dsimp only at hSw); go_simp; try with_reducible rfl)
      try simp only [Act.put, List.setIfInBounds_toArray, List.set_cons_zero, List.set_cons_succ, List.getElem_toArray, List.getElem_cons_zero, List.getElem_cons_succ]
      refine wpAnyH_take (i := 13) (oi := _) (v := ?_) rfl (by kernel_rfl) (by kernel_rfl) (by kernel_rfl) (fun _ _ _ h => h) (Or.inl ⟨by rfl, ?_⟩) (by assumption) ?_
      rotate_left
      · (intro w hSw; (try dsimp only at hSw); go_simp; try with_reducible rfl)
      try simp only [Act.put, List.setIfInBounds_toArray, List.set_cons_zero, List.set_cons_succ, List.getElem_toArray, List.getElem_cons_zero, List.getElem_cons_succ]
      refine wpAnyH_take (i := 14) (oi := _) (v := ?_) rfl (by kernel_rfl) (by kernel_rfl) (by kernel_rfl) (fun _ _ _ h => h) (Or.inl ⟨by rfl, ?_⟩) (by assumption) ?_
      rotate_left
      · (intro w hSw; (try dsimp only at hSw); go_simp; try with_reducible rfl)
      try simp only [Act.put, List.setIfInBounds_toArray, List.set_cons_zero, List.set_cons_succ, List.getElem_toArray, List.getElem_cons_zero, List.getElem_cons_succ]
      refine wpAnyH_take (i := 15) (oi := _) (v := ?_) rfl (by kernel_rfl) (by kernel_rfl) (by kernel_rfl) (fun _ _ _ h => h) (Or.inl ⟨by rfl, ?_⟩) (by assumption) ?_
      rotate_left
      · (intro w hSw; (try dsimp only at hSw); go_simp; try with_reducible rfl)
      try simp only [Act.put, List.setIfInBounds_toArray, List.set_cons_zero, List.set_cons_succ, List.getElem_toArray, List.getElem_cons_zero, List.getElem_cons_succ]
      refine wpAnyH_take (i := 16) (oi := _) (v := ?_) rfl (by kernel_rfl) (by kernel_rfl) (by kernel_rfl) (fun _ _ _ h => h) (Or.inl ⟨by rfl, ?_⟩) (by assumption) ?_
      rotate_left
      · (intro w hSw; (try dsimp only at hSw); go_simp; try with_reducible rfl)
      try simp only [Act.put, List.setIfInBounds_toArray, List.set_cons_zero, List.set_cons_succ, List.getElem_toArray, List.getElem_cons_zero, List.getElem_cons_succ]
      refine wpAnyH_take (i := 17) (oi := _) (v := ?_) rfl (by kernel_rfl) (by kernel_rfl) (by kernel_rfl) (fun _ _ _ h => h) (Or.inl ⟨by rfl, ?_⟩) (by assumption) ?_
      rotate_left
      · (intro w hSw; (try dsimp only at hSw); go_simp; try with_reducible rfl)
      try simp only [Act.put, List.setIfInBounds_toArray, List.set_cons_zero, List.set_cons_succ, List.getElem_toArray, List.getElem_cons_zero, List.getElem_cons_succ]
      refine wpAnyH_take (i := 18) (oi := _) (v := ?_) rfl (by kernel_rfl) (by kernel_rfl) (by kernel_rfl) (fun _ _ _ h => h) (Or.inl ⟨by rfl, ?_⟩) (by assumption) ?_
      rotate_left
      · (intro w hSw; (try dsimp only at hSw); go_simp; try with_reducible rfl)
      try simp only [Act.put, List.setIfInBounds_toArray, List.set_cons_zero, List.set_cons_succ, List.getElem_toArray, List.getElem_cons_zero, List.getElem_cons_succ]
      refine wpAnyH_done (by kernel_rfl) ?_ _
      obtain ⟨ys', os', hs4, hi4⟩ := HST4.out HOK.out
      have HS5 := Lib.hid hs4
      have HI5 := Lib.hid hi4
      clear hs4 hi4
      go_wp2
      go_roundw
      case rel => exact ⟨(m + 1) + 1, ys', os', by omega, by go_num, HS5, HI5, Lib.hid (cg_step HA.out HOK.out), Lib.hid (fun a ha => HTH.out a (by have := HI5.out.ol; have := HI.out.ol; omega)), Lib.hid (HB.out.trans (HB3.out.trans (HB4.out.below (B := w.heap.size) (by omega) (fun q hq => hq.1)))), by have := HB4.out.size; omega, Lib.hid (cu_step HCU.out HTT.out)⟩
      case measure => simp [intOf]; omega
    · obtain rfl : k = hs.length := by omega
      have HE := Lib.hid (show cuT hs t hs.length = hs.length from HCU.out)
      go_wp2
      go_returns
      exact ⟨⟨bx, .inr ⟨rfl, by rw [HE.out]; exact HA.out, R, d, g, G, ys, v, T, os, HS.out, by rw [HE.out]; exact HI.out⟩⟩, HB.out⟩
end Go.Proofs.Ythbkfekbpjkhnaa
