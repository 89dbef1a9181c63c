/- TakeBack of the model. -/
import Derived.Test.YthbkfekbpjkhnaaHiXp
import Derived.Test.YthbkfekbpjkhnaaHiY
import Derived.Deep.RegionHeld3
namespace Go.Proofs.Ythbkfekbpjkhnaa
open Go.ChangeShapes Go.WideShapes Go.ChangeAt Go.RowKit Go.Lib Go.Proofs Go.PlainAid
set_option linter.unusedVariables false

theorem hiOk_take {xs : List Im} {hs : List Cg} (h : HiOk xs hs) (p : Nat) (hp : p ≤ hs.length) : TkAll (hs.take p) ∧ CgAll xs (hs.take p) (hs.take p).length := by
  have hl : (hs.take p).length = p := by rw [List.length_take]; omega
  exact ⟨fun k hk => (h.2.tk k (by omega)).congr (fun j hj => it_take hs (by omega)), fun k hk => (h.2.ok k (by omega)).congr (fun j hj => it_take hs (by omega))⟩
set_option maxHeartbeats 4000000 in
set_option maxRecDepth 100000 in
theorem sTakeBack_a (P : Option Addr) (c : Nat) (xs : List Im) (A : Option Addr) (ch : Nat) (hs : List Cg) (t r : Int) (w : World) (hr : Ims w w.heap.size P xs) (hl : ImsFits xs) (hg : Lst w w.heap.size A hs) (hgl : hs.length ≤ 1048576) (hcap : hs.length ≤ ch ∧ ch ≤ 9223372036854775807) :
    Calls Try.prog 42 #[.slice P xs.length c, .slice A hs.length ch, .int .i64 t, .int .i64 r] w (CgAns w (tbF xs hs t r) (TbOk xs hs t r)) := by
  have HA := Lib.hid (hiAsked_any P c xs A ch hs w hr hl hg hgl)
  have HR := Lib.hid hr
  have HG := Lib.hid hg
  have hca1 := hcap.1
  have hca2 := hcap.2
  clear hr hl hg hcap
  by_cases hok : HiOk xs hs
  rotate_left
  · have HV := Lib.hid (tbF_no t r hok)
    rw [pB_no hok] at HA
    clear hok
    go_enter Try.func42, Try.ntmps42
    go_wp2_with fail
    refine HA.out.mono ?_
    rintro e w1 ⟨rfl, hb1⟩
    have HB1 := Lib.hid hb1
    clear hb1 HA
    go_wp2
    go_returns
    exact cgAns_no HV.out.2 HV.out.1 HB1.out
  rw [pB_yes hok] at HA
  have HK := Lib.hid hok
  have h60 := hok.2.few
  clear hok
  go_enter Try.func42, Try.ntmps42
  go_wp2_with fail
  refine HA.out.mono ?_
  rintro e w1 ⟨rfl, hb1⟩
  have HB1 := Lib.hid hb1
  have hw1 := hb1.size
  clear hb1 HA
  go_wp2_with fail
  go_loopw [10] (fun q wr => ∃ m : Nat, m ≤ hs.length ∧ q = .int .i64 ((m : Int) - 1) ∧ Hid (lnK hs hs.length = lnK hs m) ∧ wr = w1) (fun q _ => (intOf q + 1).toNat)
  case atStart => exact ⟨hs.length, Nat.le_refl _, rfl, Lib.hid rfl, rfl⟩
  case round =>
    obtain ⟨m, hm, rfl, HE, rfl⟩ := hrel
    rcases m with _ | p
    · have e0 : (((0 : Nat) : Int) - 1) = -1 := by omega
      rw [e0]
      have HX := Lib.hid (tbX_none (xs := xs) t r (show lnK hs hs.length = 0 from HE.out))
      go_wp2
      go_returns
      exact cgAns_no (tbOk_none HX.out) (tbF_none HX.out) HB1.out
    · have e0 : (((p + 1 : Nat) : Int) - 1) = (p : Int) := by omega
      rw [e0]
      have hgw := (HG.out.below HB1.out (Nat.le_refl _))
      obtain ⟨b, o, rfl, hbl, hcc⟩ := hgw.cg (by omega)
      have HGW := Lib.hid (hgw.up HB1.out.size)
      obtain ⟨c0, c1, c2, c3, c4, c5⟩ := hcc p (by omega)
      have HCC := Lib.hid (And.intro c2 c3)
      have hi1 : (0 : Int) ≤ (p : Int) := by omega
      have hi2 : (p : Int) < (hs.length : Int) := by omega
      have hi3 : (p : Int) ≤ (ch : Int) := by omega
      clear hcc hgw e0 c0 c1 c2 c3 c4
      rcases hrv : (it hs p).review with _ | _
      rotate_left
      · rw [hrv] at c5
        have HE2 := Lib.hid (show lnK hs hs.length = lnK hs p by rw [HE.out, lnK_miss hrv])
        clear hrv
        go_wp2
        go_roundw
        case rel => exact ⟨p, by omega, by first | rfl | simp, HE2, trivial⟩
        case measure => simp [intOf]
      rw [hrv] at c5
      have HX := Lib.hid (tbX_some (xs := xs) t r (show lnK hs hs.length = p + 1 by rw [HE.out, lnK_hit hrv]))
      clear hrv
      have hnm := (HK.out.2.ok p (by omega)).nm
      obtain ⟨i, hi⟩ : ∃ i : Nat, (it hs p).item = (i : Int) := ⟨(it hs p).item.toNat, by have := hnm.i0; omega⟩
      obtain ⟨n, hn⟩ : ∃ n : Nat, (it hs p).name = (n : Int) := ⟨(it hs p).name.toNat, by have := hnm.n0; omega⟩
      have hix : i < xs.length := by have := hnm.i1; omega
      have hnx : n < (it xs i).ns.length := by
        have := hnm.n1
        rw [hi] at this
        simp only [Int.toNat_natCast] at this
        omega
      have HIX := Lib.hid (And.intro hix hnx)
      have hpl : (hs.take p).length = p := by rw [List.length_take]; omega
      have HPL := Lib.hid hpl
      have hrun := hiRun_any P c xs (some ⟨b, o, none⟩) ch (hs.take p) 100000 wr (HR.out.next HB1.out) HK.out.1 (lst_take HGW.out p) (by omega) (hiOk_take HK.out p (by omega)).1
      rw [hpl] at hrun
      have HRUN := Lib.hid hrun
      have HT := Lib.hid (show tbC xs hs t r p = ⟨t, r, (i : Int), (n : Int), mkS xs hs (i : Int) (n : Int) p, false⟩ by unfold tbC; rw [hi, hn])
      have HCI := Lib.hid (show _ ∧ _ from ⟨hi ▸ HCC.out.1, hn ▸ HCC.out.2⟩)
      have hrt : (p : Int).toNat = p := by simp
      clear hnm hi hn hpl hrun hix hnx
      go_wp2_with (go_at_call 54; refine HRUN.out.mono ?_; rintro e w2 ⟨⟨bx, h⟩, hb2⟩; obtain ⟨rfl, hall, R, dd, g, G, ys, v, T, os, hst, hsi⟩ := h.resolve_left (fun q => q.2 (fun j hj => (hiOk_take HK.out p (by omega)).2 j (Nat.lt_of_lt_of_le hj (cuT_le _ _ _)))); have HST := Lib.hid hst; have HSI := Lib.hid hsi; have HB2 := Lib.hid hb2; clear h hall hst hsi hb2)
      have hcu := cuT_all (hiOk_take HK.out p (by omega)).1
      have hsi := HSI.out
      rw [hcu, HPL.out] at hsi
      have hms := hsi.ms i n HIX.out.1 HIX.out.2
      rw [mkS_congr _ _ p (fun j hj => it_take hs hj)] at hms
      have hyl := hsi.len
      have hml := hsi.ml i HIX.out.1
      have hx1 := HIX.out.1
      have hx2 := HIX.out.2
      have hst := HST.out
      obtain ⟨gy, oy, hR, hgy, hcy⟩ := hst.its.ims.out.im (by omega)
      subst hR
      obtain ⟨b2, o2, e1, e2, e3, e4⟩ := hst.its.ms i (by omega) (by omega)
      have hci := (hcy i (by omega)).c1
      rw [e1] at hci
      have hcm := (e4.int n (by omega)).1
      rw [hms] at hcm
      have x0 := hst.c0
      have hq2 := (HB2.out.cell (p := ⟨b, o + p * 6 + 2, none⟩) (Nat.lt_of_lt_of_le hbl HB1.out.size)).trans HCI.out.1
      have hq3 := (HB2.out.cell (p := ⟨b, o + p * 6 + 3, none⟩) (Nat.lt_of_lt_of_le hbl HB1.out.size)).trans HCI.out.2
      have HS8 := Lib.hid (show (fun w' => w'.cell? ⟨bx, 0, none⟩ = some (.slice (some ⟨gy, oy, none⟩) ys.length dd) ∧ w'.cell? ⟨b, o + p * 6 + 2, none⟩ = some (.int .i64 (i : Int)) ∧ w'.cell? ⟨b, o + p * 6 + 3, none⟩ = some (.int .i64 (n : Int)) ∧ w'.cell? ⟨gy, oy + i * 3 + 1, none⟩ = some (.slice (some ⟨b2, o2, none⟩) (it ys i).ms.length (it ys i).d) ∧ w'.cell? ⟨b2, o2 + n, none⟩ = some (.int .i64 (mkS xs hs (i : Int) (n : Int) p))) w2.drew from ⟨x0, hq2, hq3, hci, hcm⟩)
      have HBL := Lib.hid (show b < w2.heap.size from Nat.lt_of_lt_of_le (Nat.lt_of_lt_of_le hbl HB1.out.size) HB2.out.size)
      have HB3 := Lib.hid (Below_next HB1.out HB2.out)
      have r1 : (0 : Int) ≤ (i : Int) := by omega
      have r2 : (i : Int) < (ys.length : Int) := by omega
      have r3 : (0 : Int) ≤ (n : Int) := by omega
      have r4 : (n : Int) < ((it ys i).ms.length : Int) := by omega
      clear hcu hsi hms hyl hml hx1 hx2 hst hgy hcy e1 e2 e3 e4 hci hcm x0 hq2 hq3
      have hADD := fun W (h1 : Ims W W.heap.size P xs) (h2 : Lst W W.heap.size (some ⟨b, o, none⟩) hs) => hiAdd_any P c xs (some ⟨b, o, none⟩) ch hs (tbC xs hs t r p) W h1 h2 HK.out
      have HFV := Lib.hid (And.intro (tbOk_some (t := t) (r := r) HX.out) (tbF_some HX.out))
      rw [HT.out] at hADD
      have HADD := Lib.hid hADD
      unfold CgAns Cg.val at HADD
      clear hADD
      go_wp2_with fail
      refine wp_region_held_drew (S := (fun w' => w'.cell? ⟨bx, 0, none⟩ = some (.slice (some ⟨gy, oy, none⟩) ys.length dd) ∧ w'.cell? ⟨b, o + p * 6 + 2, none⟩ = some (.int .i64 (i : Int)) ∧ w'.cell? ⟨b, o + p * 6 + 3, none⟩ = some (.int .i64 (n : Int)) ∧ w'.cell? ⟨gy, oy + i * 3 + 1, none⟩ = some (.slice (some ⟨b2, o2, none⟩) (it ys i).ms.length (it ys i).d) ∧ w'.cell? ⟨b2, o2 + n, none⟩ = some (.int .i64 (mkS xs hs (i : Int) (n : Int) p)))) (by kernel_rfl) ?_ (fun hHeld0 => ?_)
      · ((try dsimp only); exact HS8.out)
      refine wpAnyH_take (i := 0) (oi := _) (v := ?_) rfl (by kernel_rfl) (by kernel_rfl) (by kernel_rfl) (fun _ _ _ h => h) (Or.inl ⟨by rfl, ?_⟩) (by assumption) ?_
      rotate_left
      · (intro w hSw; (try dsimp only at hSw); go_simp; try with_reducible rfl)
      try simp only [Act.put, List.setIfInBounds_toArray, List.set_cons_zero, List.set_cons_succ, List.getElem_toArray, List.getElem_cons_zero]
      refine wpAnyH_take (i := 1) (oi := _) (v := ?_) rfl (by kernel_rfl) (by kernel_rfl) (by kernel_rfl) (fun _ _ _ h => h) (Or.inl ⟨by rfl, ?_⟩) (by assumption) ?_
      rotate_left
      · (intro w hSw; (try dsimp only at hSw); go_simp; try with_reducible rfl)
      try simp only [Act.put, List.setIfInBounds_toArray, List.set_cons_zero, List.set_cons_succ, List.getElem_toArray, List.getElem_cons_zero, List.getElem_cons_succ]
      refine wpAnyH_take (i := 2) (oi := _) (v := ?_) rfl (by kernel_rfl) (by kernel_rfl) (by kernel_rfl) (fun _ _ _ h => h) (Or.inl ⟨by rfl, ?_⟩) (by assumption) ?_
      rotate_left
      · (intro w hSw; (try dsimp only at hSw); go_simp; try with_reducible rfl)
      try simp only [Act.put, List.setIfInBounds_toArray, List.set_cons_zero, List.set_cons_succ, List.getElem_toArray, List.getElem_cons_zero, List.getElem_cons_succ]
      refine wpAnyH_take (i := 3) (oi := _) (v := ?_) rfl (by kernel_rfl) (by kernel_rfl) (by kernel_rfl) (fun _ _ _ h => h) (Or.inl ⟨by rfl, ?_⟩) (by assumption) ?_
      rotate_left
      · (intro w hSw; (try dsimp only at hSw); go_simp; try with_reducible rfl)
      try simp only [Act.put, List.setIfInBounds_toArray, List.set_cons_zero, List.set_cons_succ, List.getElem_toArray, List.getElem_cons_zero, List.getElem_cons_succ]
      refine wpAnyH_take (i := 4) (oi := _) (v := ?_) rfl (by kernel_rfl) (by kernel_rfl) (by kernel_rfl) (fun _ _ _ h => h) (Or.inl ⟨by rfl, ?_⟩) (by assumption) ?_
      rotate_left
      · (intro w hSw; (try dsimp only at hSw); go_simp; try with_reducible rfl)
      try simp only [Act.put, List.setIfInBounds_toArray, List.set_cons_zero, List.set_cons_succ, List.getElem_toArray, List.getElem_cons_zero, List.getElem_cons_succ]
      refine wpAnyH_take (i := 5) (oi := _) (v := ?_) rfl (by kernel_rfl) (by kernel_rfl) (by kernel_rfl) (fun _ _ _ h => h) (Or.inl ⟨by rfl, ?_⟩) (by assumption) ?_
      rotate_left
      · (intro w hSw; (try dsimp only at hSw); go_simp; try with_reducible rfl)
      try simp only [Act.put, List.setIfInBounds_toArray, List.set_cons_zero, List.set_cons_succ, List.getElem_toArray, List.getElem_cons_zero, List.getElem_cons_succ]
      refine wpAnyH_take (i := 6) (oi := _) (v := ?_) rfl (by kernel_rfl) (by kernel_rfl) (by kernel_rfl) (fun _ _ _ h => h) (Or.inl ⟨by rfl, ?_⟩) (by assumption) ?_
      rotate_left
      · (intro w hSw; (try dsimp only at hSw); go_simp; try with_reducible rfl)
      try simp only [Act.put, List.setIfInBounds_toArray, List.set_cons_zero, List.set_cons_succ, List.getElem_toArray, List.getElem_cons_zero, List.getElem_cons_succ]
      refine wpAnyH_take (i := 7) (oi := _) (v := ?_) rfl (by kernel_rfl) (by kernel_rfl) (by kernel_rfl) (fun _ _ _ h => h) (Or.inl ⟨by rfl, ?_⟩) (by assumption) ?_
      rotate_left
      · (intro w hSw; (try dsimp only at hSw); go_simp; try with_reducible rfl)
      try simp only [Act.put, List.setIfInBounds_toArray, List.set_cons_zero, List.set_cons_succ, List.getElem_toArray, List.getElem_cons_zero, List.getElem_cons_succ]
      refine wpAnyH_take (i := 8) (oi := _) (v := ?_) rfl (by kernel_rfl) (by kernel_rfl) (by kernel_rfl) (fun _ _ _ h => h) (Or.inl ⟨by rfl, ?_⟩) (by assumption) ?_
      rotate_left
      · (intro w hSw; (try dsimp only at hSw); go_simp; try with_reducible rfl)
      try simp only [Act.put, List.setIfInBounds_toArray, List.set_cons_zero, List.set_cons_succ, List.getElem_toArray, List.getElem_cons_zero, List.getElem_cons_succ]
      refine wpAnyH_take (i := 9) (oi := _) (v := ?_) rfl (by kernel_rfl) (by kernel_rfl) (by kernel_rfl) (fun _ _ _ h => h) (Or.inl ⟨by rfl, ?_⟩) (by assumption) ?_
      rotate_left
      · (intro w hSw; (try dsimp only at hSw); go_simp; try with_reducible rfl)
      try simp only [Act.put, List.setIfInBounds_toArray, List.set_cons_zero, List.set_cons_succ, List.getElem_toArray, List.getElem_cons_zero, List.getElem_cons_succ]
      refine wpAnyH_take (i := 10) (oi := _) (v := ?_) rfl (by kernel_rfl) (by kernel_rfl) (by kernel_rfl) (fun _ _ _ h => h) (Or.inl ⟨by rfl, ?_⟩) (by assumption) ?_
      rotate_left
      · (intro w hSw; (try dsimp only at hSw); go_simp; try with_reducible rfl)
      try simp only [Act.put, List.setIfInBounds_toArray, List.set_cons_zero, List.set_cons_succ, List.getElem_toArray, List.getElem_cons_zero, List.getElem_cons_succ]
      refine wpAnyH_take (i := 11) (oi := _) (v := ?_) rfl (by kernel_rfl) (by kernel_rfl) (by kernel_rfl) (fun _ _ _ h => h) (Or.inl ⟨by rfl, ?_⟩) (by assumption) ?_
      rotate_left
      · (intro w hSw; (try dsimp only at hSw); go_simp; try with_reducible rfl)
      try simp only [Act.put, List.setIfInBounds_toArray, List.set_cons_zero, List.set_cons_succ, List.getElem_toArray, List.getElem_cons_zero, List.getElem_cons_succ]
      refine wpAnyH_take (i := 12) (oi := _) (v := ?_) rfl (by kernel_rfl) (by kernel_rfl) (by kernel_rfl) (fun _ _ _ h => h) (Or.inl ⟨by rfl, ?_⟩) (by assumption) ?_
      rotate_left
      · (intro w hSw; (try dsimp only at hSw); go_simp; try with_reducible rfl)
      try simp only [Act.put, List.setIfInBounds_toArray, List.set_cons_zero, List.set_cons_succ, List.getElem_toArray, List.getElem_cons_zero, List.getElem_cons_succ]
      refine wpAnyH_take (i := 13) (oi := _) (v := ?_) rfl (by kernel_rfl) (by kernel_rfl) (by kernel_rfl) (fun _ _ _ h => h) (Or.inl ⟨by rfl, ?_⟩) (by assumption) ?_
      rotate_left
      · (intro w hSw; (try dsimp only at hSw); go_simp; try with_reducible rfl)
      try simp only [Act.put, List.setIfInBounds_toArray, List.set_cons_zero, List.set_cons_succ, List.getElem_toArray, List.getElem_cons_zero, List.getElem_cons_succ]
      refine wpAnyH_take (i := 14) (oi := _) (v := ?_) rfl (by kernel_rfl) (by kernel_rfl) (by kernel_rfl) (fun _ _ _ h => h) (Or.inl ⟨by rfl, ?_⟩) (by assumption) ?_
      rotate_left
      · (intro w hSw; (try dsimp only at hSw); go_simp; try with_reducible rfl)
      try simp only [Act.put, List.setIfInBounds_toArray, List.set_cons_zero, List.set_cons_succ, List.getElem_toArray, List.getElem_cons_zero, List.getElem_cons_succ]
      refine wpAnyH_take (i := 15) (oi := _) (v := ?_) rfl (by kernel_rfl) (by kernel_rfl) (by kernel_rfl) (fun _ _ _ h => h) (Or.inl ⟨by rfl, ?_⟩) (by assumption) ?_
      rotate_left
      · (intro w hSw; (try dsimp only at hSw); go_simp; try with_reducible rfl)
      try simp only [Act.put, List.setIfInBounds_toArray, List.set_cons_zero, List.set_cons_succ, List.getElem_toArray, List.getElem_cons_zero, List.getElem_cons_succ]
      refine wpAnyH_take (i := 16) (oi := _) (v := ?_) rfl (by kernel_rfl) (by kernel_rfl) (by kernel_rfl) (fun _ _ _ h => h) (Or.inl ⟨by rfl, ?_⟩) (by assumption) ?_
      rotate_left
      · (intro w hSw; (try dsimp only at hSw); go_simp; try with_reducible rfl)
      try simp only [Act.put, List.setIfInBounds_toArray, List.set_cons_zero, List.set_cons_succ, List.getElem_toArray, List.getElem_cons_zero, List.getElem_cons_succ]
      refine wpAnyH_take (i := 17) (oi := _) (v := ?_) rfl (by kernel_rfl) (by kernel_rfl) (by kernel_rfl) (fun _ _ _ h => h) (Or.inl ⟨by rfl, ?_⟩) (by assumption) ?_
      rotate_left
      · (intro w hSw; (try dsimp only at hSw); go_simp; try with_reducible rfl)
      try simp only [Act.put, List.setIfInBounds_toArray, List.set_cons_zero, List.set_cons_succ, List.getElem_toArray, List.getElem_cons_zero, List.getElem_cons_succ]
      refine wpAnyH_take (i := 18) (oi := _) (v := ?_) rfl (by kernel_rfl) (by kernel_rfl) (by kernel_rfl) (fun _ _ _ h => h) (Or.inl ⟨by rfl, ?_⟩) (by assumption) ?_
      rotate_left
      · (intro w hSw; (try dsimp only at hSw); go_simp; try with_reducible rfl)
      try simp only [Act.put, List.setIfInBounds_toArray, List.set_cons_zero, List.set_cons_succ, List.getElem_toArray, List.getElem_cons_zero, List.getElem_cons_succ]
      refine wpAnyH_take (i := 19) (oi := _) (v := ?_) rfl (by kernel_rfl) (by kernel_rfl) (by kernel_rfl) (fun _ _ _ h => h) (Or.inl ⟨by rfl, ?_⟩) (by assumption) ?_
      rotate_left
      · (intro w hSw; (try dsimp only at hSw); go_simp; try with_reducible rfl)
      try simp only [Act.put, List.setIfInBounds_toArray, List.set_cons_zero, List.set_cons_succ, List.getElem_toArray, List.getElem_cons_zero, List.getElem_cons_succ]
      refine wpAnyH_done (by kernel_rfl) ?_ _
      generalize hw3 : w2.drew = w3
      have HR2 := Lib.hid (show Ims w3 w3.heap.size P xs from by rw [← hw3]; exact HR.out.next (Below_next HB3.out (below_drew _)))
      have HG2 := Lib.hid (show Lst w3 w3.heap.size (some ⟨b, o, none⟩) hs from by rw [← hw3]; exact ((HGW.out.below HB2.out (Nat.le_refl _)).up HB2.out.size |>.below (below_drew _) (Nat.le_refl _) |>.up (below_drew _).size))
      have HB4 := Lib.hid (show Below w.heap.size w w3 from by rw [← hw3]; exact Below_next HB3.out (below_drew _))
      have HBL := Lib.hid (show b < w3.heap.size from by rw [← hw3]; exact HBL.out)
      have HS9 := Lib.hid (show (fun w' => w'.cell? ⟨b, o + p * 6 + 2, none⟩ = some (.int .i64 (i : Int)) ∧ w'.cell? ⟨b, o + p * 6 + 3, none⟩ = some (.int .i64 (n : Int))) w3.drew from by rw [← hw3]; exact ⟨HS8.out.2.1, HS8.out.2.2.1⟩)
      clear hw3 HS8
      go_wp2_with fail
      refine wp_region_held_drew (S := (fun w' => w'.cell? ⟨b, o + p * 6 + 2, none⟩ = some (.int .i64 (i : Int)) ∧ w'.cell? ⟨b, o + p * 6 + 3, none⟩ = some (.int .i64 (n : Int)))) (by kernel_rfl) ?_ (fun hHeld0 => ?_)
      · ((try dsimp only); exact HS9.out)
      refine wpAnyH_take (i := 0) (oi := _) (v := ?_) rfl (by kernel_rfl) (by kernel_rfl) (by kernel_rfl) (fun _ _ _ h => h) (Or.inl ⟨by rfl, ?_⟩) (by assumption) ?_
      rotate_left
      · (intro w hSw; (try dsimp only at hSw); go_simp; try with_reducible rfl)
      try simp only [Act.put, List.setIfInBounds_toArray, List.set_cons_zero, List.set_cons_succ, List.getElem_toArray, List.getElem_cons_zero]
      refine wpAnyH_take (i := 1) (oi := _) (v := ?_) rfl (by kernel_rfl) (by kernel_rfl) (by kernel_rfl) (fun _ _ _ h => h) (Or.inl ⟨by rfl, ?_⟩) (by assumption) ?_
      rotate_left
      · (intro w hSw; (try dsimp only at hSw); go_simp; try with_reducible rfl)
      try simp only [Act.put, List.setIfInBounds_toArray, List.set_cons_zero, List.set_cons_succ, List.getElem_toArray, List.getElem_cons_zero, List.getElem_cons_succ]
      refine wpAnyH_take (i := 2) (oi := _) (v := ?_) rfl (by kernel_rfl) (by kernel_rfl) (by kernel_rfl) (fun _ _ _ h => h) (Or.inl ⟨by rfl, ?_⟩) (by assumption) ?_
      rotate_left
      · (intro w hSw; (try dsimp only at hSw); go_simp; try with_reducible rfl)
      try simp only [Act.put, List.setIfInBounds_toArray, List.set_cons_zero, List.set_cons_succ, List.getElem_toArray, List.getElem_cons_zero, List.getElem_cons_succ]
      refine wpAnyH_take (i := 3) (oi := _) (v := ?_) rfl (by kernel_rfl) (by kernel_rfl) (by kernel_rfl) (fun _ _ _ h => h) (Or.inl ⟨by rfl, ?_⟩) (by assumption) ?_
      rotate_left
      · (intro w hSw; (try dsimp only at hSw); go_simp; try with_reducible rfl)
      try simp only [Act.put, List.setIfInBounds_toArray, List.set_cons_zero, List.set_cons_succ, List.getElem_toArray, List.getElem_cons_zero, List.getElem_cons_succ]
      refine wpAnyH_take (i := 4) (oi := _) (v := ?_) rfl (by kernel_rfl) (by kernel_rfl) (by kernel_rfl) (fun _ _ _ h => h) (Or.inl ⟨by rfl, ?_⟩) (by assumption) ?_
      rotate_left
      · (intro w hSw; (try dsimp only at hSw); go_simp; try with_reducible rfl)
      try simp only [Act.put, List.setIfInBounds_toArray, List.set_cons_zero, List.set_cons_succ, List.getElem_toArray, List.getElem_cons_zero, List.getElem_cons_succ]
      refine wpAnyH_take (i := 5) (oi := _) (v := ?_) rfl (by kernel_rfl) (by kernel_rfl) (by kernel_rfl) (fun _ _ _ h => h) (Or.inl ⟨by rfl, ?_⟩) (by assumption) ?_
      rotate_left
      · (intro w hSw; (try dsimp only at hSw); go_simp; try with_reducible rfl)
      try simp only [Act.put, List.setIfInBounds_toArray, List.set_cons_zero, List.set_cons_succ, List.getElem_toArray, List.getElem_cons_zero, List.getElem_cons_succ]
      refine wpAnyH_take (i := 6) (oi := _) (v := ?_) rfl (by kernel_rfl) (by kernel_rfl) (by kernel_rfl) (fun _ _ _ h => h) (Or.inl ⟨by rfl, ?_⟩) (by assumption) ?_
      rotate_left
      · (intro w hSw; (try dsimp only at hSw); go_simp; try with_reducible rfl)
      try simp only [Act.put, List.setIfInBounds_toArray, List.set_cons_zero, List.set_cons_succ, List.getElem_toArray, List.getElem_cons_zero, List.getElem_cons_succ]
      refine wpAnyH_take (i := 7) (oi := _) (v := ?_) rfl (by kernel_rfl) (by kernel_rfl) (by kernel_rfl) (fun _ _ _ h => h) (Or.inl ⟨by rfl, ?_⟩) (by assumption) ?_
      rotate_left
      · (intro w hSw; (try dsimp only at hSw); go_simp; try with_reducible rfl)
      try simp only [Act.put, List.setIfInBounds_toArray, List.set_cons_zero, List.set_cons_succ, List.getElem_toArray, List.getElem_cons_zero, List.getElem_cons_succ]
      refine wpAnyH_take (i := 8) (oi := _) (v := ?_) rfl (by kernel_rfl) (by kernel_rfl) (by kernel_rfl) (fun _ _ _ h => h) (Or.inl ⟨by rfl, ?_⟩) (by assumption) ?_
      rotate_left
      · (intro w hSw; (try dsimp only at hSw); go_simp; try with_reducible rfl)
      try simp only [Act.put, List.setIfInBounds_toArray, List.set_cons_zero, List.set_cons_succ, List.getElem_toArray, List.getElem_cons_zero, List.getElem_cons_succ]
      refine wpAnyH_take (i := 9) (oi := _) (v := ?_) rfl (by kernel_rfl) (by kernel_rfl) (by kernel_rfl) (fun _ _ _ h => h) (Or.inl ⟨by rfl, ?_⟩) (by assumption) ?_
      rotate_left
      · (intro w hSw; (try dsimp only at hSw); go_simp; try with_reducible rfl)
      try simp only [Act.put, List.setIfInBounds_toArray, List.set_cons_zero, List.set_cons_succ, List.getElem_toArray, List.getElem_cons_zero, List.getElem_cons_succ]
      refine wpAnyH_take (i := 10) (oi := _) (v := ?_) rfl (by kernel_rfl) (by kernel_rfl) (by kernel_rfl) (fun _ _ _ h => h) (Or.inl ⟨by rfl, ?_⟩) (by assumption) ?_
      rotate_left
      · (intro w hSw; (try dsimp only at hSw); go_simp; try with_reducible rfl)
      try simp only [Act.put, List.setIfInBounds_toArray, List.set_cons_zero, List.set_cons_succ, List.getElem_toArray, List.getElem_cons_zero, List.getElem_cons_succ]
      refine wpAnyH_take (i := 11) (oi := _) (v := ?_) rfl (by kernel_rfl) (by kernel_rfl) (by kernel_rfl) (fun _ _ _ h => h) (Or.inl ⟨by rfl, ?_⟩) (by assumption) ?_
      rotate_left
      · (intro w hSw; (try dsimp only at hSw); go_simp; try with_reducible rfl)
      try simp only [Act.put, List.setIfInBounds_toArray, List.set_cons_zero, List.set_cons_succ, List.getElem_toArray, List.getElem_cons_zero, List.getElem_cons_succ]
      refine wpAnyH_take (i := 12) (oi := _) (v := ?_) rfl (by kernel_rfl) (by kernel_rfl) (by kernel_rfl) (fun _ _ _ h => h) (Or.inl ⟨by rfl, ?_⟩) (by assumption) ?_
      rotate_left
      · (intro w hSw; (try dsimp only at hSw); go_simp; try with_reducible rfl)
      try simp only [Act.put, List.setIfInBounds_toArray, List.set_cons_zero, List.set_cons_succ, List.getElem_toArray, List.getElem_cons_zero, List.getElem_cons_succ]
      refine wpAnyH_take (i := 13) (oi := _) (v := ?_) rfl (by kernel_rfl) (by kernel_rfl) (by kernel_rfl) (fun _ _ _ h => h) (Or.inl ⟨by rfl, ?_⟩) (by assumption) ?_
      rotate_left
      · (intro w hSw; (try dsimp only at hSw); go_simp; try with_reducible rfl)
      try simp only [Act.put, List.setIfInBounds_toArray, List.set_cons_zero, List.set_cons_succ, List.getElem_toArray, List.getElem_cons_zero, List.getElem_cons_succ]
      refine wpAnyH_take (i := 14) (oi := _) (v := ?_) rfl (by kernel_rfl) (by kernel_rfl) (by kernel_rfl) (fun _ _ _ h => h) (Or.inl ⟨by rfl, ?_⟩) (by assumption) ?_
      rotate_left
      · (intro w hSw; (try dsimp only at hSw); go_simp; try with_reducible rfl)
      try simp only [Act.put, List.setIfInBounds_toArray, List.set_cons_zero, List.set_cons_succ, List.getElem_toArray, List.getElem_cons_zero, List.getElem_cons_succ]
      refine wpAnyH_take (i := 15) (oi := _) (v := ?_) rfl (by kernel_rfl) (by kernel_rfl) (by kernel_rfl) (fun _ _ _ h => h) (Or.inl ⟨by rfl, ?_⟩) (by assumption) ?_
      rotate_left
      · (intro w hSw; (try dsimp only at hSw); go_simp; try with_reducible rfl)
      try simp only [Act.put, List.setIfInBounds_toArray, List.set_cons_zero, List.set_cons_succ, List.getElem_toArray, List.getElem_cons_zero, List.getElem_cons_succ]
      refine wpAnyH_ready (rs := [16]) (by kernel_rfl) (by simp) ?_
      refine AllReadyH.cons rfl (fun K hK => ?_) ?_
      rotate_left
      · exact AllReadyH.nil
      go_simp
      go_wp2_with (go_at_call 62; refine (HADD.out _ (HR2.out.next (below_drew w3)) ((HG2.out.below (below_drew w3) (Nat.le_refl _)).up (below_drew w3).size)).mono ?_; rintro e w5 ⟨⟨R5, d5, rfl, ho5⟩, hb5⟩; have HO5 := Lib.hid ho5; have HB5 := Lib.hid hb5; have HS5 := Lib.hid (show _ ∧ _ from ⟨(hb5.cell (p := ⟨b, o + p * 6 + 2, none⟩) (by have := HBL.out; show b < w3.heap.size; omega)).trans HS9.out.1, (hb5.cell (p := ⟨b, o + p * 6 + 3, none⟩) (by have := HBL.out; show b < w3.heap.size; omega)).trans HS9.out.2⟩); clear ho5 hb5)
      refine hK.out _ _ ?_ (fun hHeld1 => ?_)
      · ((try dsimp only); exact HS5.out)
      clear hK K
      refine wpAnyH_take (i := 17) (oi := _) (v := ?_) rfl (by kernel_rfl) (by kernel_rfl) (by kernel_rfl) (fun _ _ _ h => h) (Or.inl ⟨by rfl, ?_⟩) (by assumption) ?_
      rotate_left
      · (intro w hSw; (try dsimp only at hSw); go_simp; try with_reducible rfl)
      try simp only [Act.put, List.setIfInBounds_toArray, List.set_cons_zero, List.set_cons_succ, List.getElem_toArray, List.getElem_cons_zero, List.getElem_cons_succ]
      refine wpAnyH_take (i := 18) (oi := _) (v := ?_) rfl (by kernel_rfl) (by kernel_rfl) (by kernel_rfl) (fun _ _ _ h => h) (Or.inl ⟨by rfl, ?_⟩) (by assumption) ?_
      rotate_left
      · (intro w hSw; (try dsimp only at hSw); go_simp; try with_reducible rfl)
      try simp only [Act.put, List.setIfInBounds_toArray, List.set_cons_zero, List.set_cons_succ, List.getElem_toArray, List.getElem_cons_zero, List.getElem_cons_succ]
      refine wpAnyH_take (i := 19) (oi := _) (v := ?_) rfl (by kernel_rfl) (by kernel_rfl) (by kernel_rfl) (fun _ _ _ h => h) (Or.inl ⟨by rfl, ?_⟩) (by assumption) ?_
      rotate_left
      · (intro w hSw; (try dsimp only at hSw); go_simp; try with_reducible rfl)
      try simp only [Act.put, List.setIfInBounds_toArray, List.set_cons_zero, List.set_cons_succ, List.getElem_toArray, List.getElem_cons_zero, List.getElem_cons_succ]
      refine wpAnyH_take (i := 20) (oi := _) (v := ?_) rfl (by kernel_rfl) (by kernel_rfl) (by kernel_rfl) (fun _ _ _ h => h) (Or.inl ⟨by rfl, ?_⟩) (by assumption) ?_
      rotate_left
      · (intro w hSw; (try dsimp only at hSw); go_simp; try with_reducible rfl)
      try simp only [Act.put, List.setIfInBounds_toArray, List.set_cons_zero, List.set_cons_succ, List.getElem_toArray, List.getElem_cons_zero, List.getElem_cons_succ]
      refine wpAnyH_done (by kernel_rfl) ?_ _
      go_wp2
      go_returns
      exact ⟨⟨R5, d5, by rw [HFV.out.1, HFV.out.2, HT.out]; rfl, by rw [HFV.out.2, HT.out]; exact HO5.out.mono (fun q hq => ⟨Nat.le_trans HB4.out.size hq.1, hq.2⟩)⟩, Below_next HB4.out (Below_next (below_drew w3) HB5.out)⟩
theorem sTakeBack_any (P : Option Addr) (c : Nat) (xs : List Im) (A : Option Addr) (ch : Nat) (hs : List Cg) (t r : Int) (w : World) (hr : Ims w w.heap.size P xs) (hl : ImsFits xs) (hg : Lst w w.heap.size A hs) (hgl : hs.length ≤ 1048576) (hcap : hs.length ≤ ch ∧ ch ≤ 9223372036854775807) :
    Calls Try.prog 42 #[.slice P xs.length c, .slice A hs.length ch, .int .i64 t, .int .i64 r] w fun e w' => (∃ R d, e = .returned (.tuple #[.slice R (tbF xs hs t r).length d, .bool (pB (TbOk xs hs t r))]) ∧ Owned (fun i => w.heap.size ≤ i ∧ i < w'.heap.size) w' R (tbF xs hs t r)) ∧ Below w.heap.size w w' :=
  (sTakeBack_a P c xs A ch hs t r w hr hl hg hgl hcap).mono fun _ _ h => h
end Go.Proofs.Ythbkfekbpjkhnaa
