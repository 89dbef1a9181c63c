/- OpenReviews of the program. -/
import Derived.Test.YthbkfekbpjkhnaaHiOm
import Derived.Test.YthbkfekbpjkhnaaHiC
namespace Go.Proofs.Ythbkfekbpjkhnaa
open Go.ChangeShapes Go.WideShapes Go.ChangeAt Go.RowKit Go.Lib Go.Proofs
set_option linter.unusedVariables false

theorem hiOkP_same {xs ys : List Im} (h : SameS xs ys) (hs : List Cg) : pB (HiOk ys hs) = pB (HiOk xs hs) := pB_iff (hiOk_same h hs)
set_option maxHeartbeats 2000000 in
theorem openR_any (A : Option Addr) (ch : Nat) (hs : List Cg) (i j p : Nat) (w : World) (hm : w.cell? ⟨p, 0, none⟩ = some (.slice A hs.length ch)) (hp : p < w.heap.size) (hg : Lst w w.heap.size A hs) (hgl : hs.length ≤ 1048576) :
    Calls Try.prog 60 (#[.int .i64 (i : Int), .int .i64 (j : Int)] ++ #[.pointer (some ⟨p, 0, none⟩)]) w fun e w' => e = .returned (.bool (orD hs i j)) ∧ Below w.heap.size w w' := by
  show Calls Try.prog 60 #[.int .i64 (i : Int), .int .i64 (j : Int), .pointer (some ⟨p, 0, none⟩)] w _
  have HC := Lib.hid (lastOfName_any A ch hs (i : Int) (j : Int) w hg hgl)
  have HG := Lib.hid hg
  unfold orD
  rcases hk : laK hs (i : Int) (j : Int) hs.length with _ | q
  · have HO := Lib.hid (opS_none hk)
    rw [hk] at HC
    have HC := Lib.hid (show Calls Try.prog 61 #[.slice A hs.length ch, .int .i64 (i : Int), .int .i64 (j : Int)] w fun e w' => e = .returned (.tuple #[.int .i64 0, .bool false]) ∧ Below w.heap.size w w' from HC.out)
    clear hg hk
    rw [HO.out]
    go_enter Try.func60, Try.ntmps60
    go_wp2_with (go_at_call 61; refine HC.out.mono ?_; rintro e w2 ⟨rfl, hb2⟩; have hm2 := (hb2.cell (p := ⟨p, 0, none⟩) hp).trans hm; have HB2 := Lib.hid hb2; clear hb2)
    go_ret
    exact ⟨rfl, HB2.out⟩
  · have HO := Lib.hid (opS_some hk)
    have hq := (laK_at hk).1
    rw [hk] at HC
    have HC := Lib.hid (show Calls Try.prog 61 #[.slice A hs.length ch, .int .i64 (i : Int), .int .i64 (j : Int)] w fun e w' => e = .returned (.tuple #[.int .i64 (q : Int), .bool true]) ∧ Below w.heap.size w w' from HC.out)
    obtain ⟨b, o, rfl, hbl, hcc⟩ := hg.cg (by omega)
    have HCC := Lib.hid (And.intro hbl (hcc q hq).c5)
    have r1 : (0 : Int) ≤ (q : Int) := by omega
    have r2 : (q : Int) < (hs.length : Int) := by omega
    clear hg hk hcc hbl
    rw [HO.out]
    go_enter Try.func60, Try.ntmps60
    go_wp2_with (go_at_call 61; refine HC.out.mono ?_; rintro e w2 ⟨rfl, hb2⟩; have hm2 := (hb2.cell (p := ⟨p, 0, none⟩) hp).trans hm; have hc5 := (hb2.cell (p := ⟨b, o + q * 6 + 5, none⟩) HCC.out.1).trans HCC.out.2; have HB2 := Lib.hid hb2; clear hb2)
    go_ret
    exact ⟨rfl, HB2.out⟩
set_option maxHeartbeats 2000000 in
theorem iOpenReviews_any (P : Option Addr) (c : Nat) (xs : List Im) (A : Option Addr) (ch : Nat) (hs : List Cg) (w : World) (hr : Ims w w.heap.size P xs) (hl : ImsFits xs) (hg : Lst w w.heap.size A hs) (hgl : hs.length ≤ 1048576) (hcap : hs.length ≤ ch ∧ ch ≤ 9223372036854775807) :
    Calls Try.prog 27 #[.slice P xs.length c, .slice A hs.length ch] w fun e w' => (∃ y : Rw (Rw Int), e = .returned (.tuple #[.slice y.A y.xs.length y.c, .bool (pB (HiOk xs hs))]) ∧ PairsAns (orF xs hs) w w' y) ∧ Below w.heap.size w w' := by
  have hb0 := below_alloc w (.cells #[.slice A hs.length ch] 30)
  have hc0 := (new_one w w.heap.size (.slice A hs.length ch) 30 rfl).1
  have hsW : w.heap.size < (w.alloc (.cells #[.slice A hs.length ch] 30)).heap.size := by simp
  have HR := Lib.hid (hr.next hb0)
  have HG := Lib.hid ((hg.below hb0 (Nat.le_refl _)).up hb0.size)
  have HB0 := Lib.hid hb0
  clear hr hg hb0
  go_enter Try.func27, Try.ntmps27
  go_wp2_with fail
  generalize World.alloc w _ = W at HR HG HB0 hsW hc0 ⊢
  have HA := Lib.hid (recordsOf_any P c xs A ch hs W HR.out hl HG.out hgl hcap)
  by_cases hok : HiOk xs hs
  rotate_left
  · have HP := Lib.hid (And.intro (pB_no hok) (orF_no hok))
    rw [pB_no hok] at HA
    clear hok
    refine HA.out.mono ?_
    rintro e w1 ⟨⟨R, d, rs, rfl, _⟩, hb1⟩
    have HB1 := Lib.hid (Below_next HB0.out hb1)
    clear hb1 HA
    go_wp2
    go_returns
    rw [HP.out.1, HP.out.2]
    exact ⟨⟨⟨none, 0, []⟩, rfl, PairsAns.nil _ _⟩, HB1.out⟩
  rw [pB_yes hok] at HA
  have HP := Lib.hid (And.intro (pB_yes hok) (orF_yes hok))
  have HK := Lib.hid hok
  clear hok
  refine HA.out.mono ?_
  rintro e w1 ⟨⟨R, d, rs, rfl, _⟩, hb1⟩
  have HB1 := Lib.hid (Below_next HB0.out hb1)
  have HR1 := Lib.hid (HR.out.next hb1)
  have HG1 := Lib.hid ((HG.out.below hb1 (Nat.le_refl _)).up hb1.size)
  have hs1 := Nat.lt_of_lt_of_le hsW hb1.size
  have hc1 := (hb1.cell (p := ⟨w.heap.size, 0, none⟩) hsW).trans hc0
  clear hb1 HA
  have eG : ∀ args w, (callFunc 60 args).run Try.prog w = .ok (.enter 60 args) w := enters_of Try.func60 (by kernel_rfl) rfl
  have HC := Lib.hid (namesWhere_any P c xs 60 #[.pointer (some ⟨w.heap.size, 0, none⟩)] (orD hs) w1 HR1.out HK.out.1 eG (fun W' hb i j hi hj => openR_any A ch hs i j w.heap.size W' ((hb.cell (p := ⟨w.heap.size, 0, none⟩) hs1).trans hc1) (Nat.lt_of_lt_of_le hs1 hb.size) ((HG1.out.below hb (Nat.le_refl _)).up hb.size) hgl))
  clear eG
  go_wp2_with (go_at_call 59; refine HC.out.mono ?_; rintro e w2 ⟨⟨y, rfl, hy1, hy2, hy3⟩, hb2⟩; have HY := Lib.hid (And.intro hy1 (And.intro hy2 hy3)); have HB2 := Lib.hid (Below_next HB1.out hb2); clear hy1 hy2 hy3 hb2)
  go_returns
  rw [HP.out.1, HP.out.2]
  exact ⟨⟨y, rfl, HY.out.1, HY.out.2.1, Nst.own_mono HY.out.2.2 (fun i hi => ⟨Nat.le_trans HB1.out.size hi.1, hi.2⟩)⟩, HB2.out⟩
end Go.Proofs.Ythbkfekbpjkhnaa
