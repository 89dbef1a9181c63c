/- JudgeMarks, of both sides. -/
import Derived.Test.YtfeffkjmjkddnaaMrG
import Derived.Deep.RegionHeld3
namespace Go.Proofs.Ytfeffkjmjkddnaa
open Go.ChangeShapes Go.WideShapes Go.ChangeAt Go.RowKit Go.Lib Go.Proofs Go.PlainAid
set_option linter.unusedVariables false

noncomputable def jmG (g c : List (List Int)) (j : Int) : List Int := pIf (MkHas g c j) (colL g j.toNat) []
noncomputable def jmC (g c : List (List Int)) (j : Int) : List Int := pIf (MkHas g c j) (colL c j.toNat) []
theorem jm_yes {g c : List (List Int)} {j : Int} (h : MkHas g c j) : jmG g c j = colL g j.toNat ∧ jmC g c j = colL c j.toNat := ⟨pIf_yes h, pIf_yes h⟩
theorem jm_no {g c : List (List Int)} {j : Int} (h : ¬ MkHas g c j) : jmG g c j = [] ∧ jmC g c j = [] := ⟨pIf_no h, pIf_no h⟩
theorem jmG_small (g c : List (List Int)) (j : Int) : (jmG g c j).length ≤ 1000 := by
  by_cases h : MkHas g c j
  · rw [(jm_yes h).1, colL_len]
    have := h.ok.few
    omega
  · rw [(jm_no h).1]
    exact Nat.zero_le _
theorem jmC_small (g c : List (List Int)) (j : Int) : (jmC g c j).length ≤ 1000 := by
  by_cases h : MkHas g c j
  · rw [(jm_yes h).2, colL_len]
    have := h.ok.three
    omega
  · rw [(jm_no h).2]
    exact Nat.zero_le _
theorem MkHas.cols {g c : List (List Int)} {j : Int} (h : MkHas g c j) {q : Rw (Rw Int)} {Q : Int → Prop} (hq : RowsV Q (jgs c) (ctt q)) : ∀ i, i < q.xs.length → j.toNat < (it q.xs i).xs.length := fun i hi => by
  have h1 := (hq i (by rw [ctt_len]; exact hi)).len
  rw [ctt_it] at h1
  have := h.lo
  have := h.hi
  omega
theorem ints2_ab {l m : List Int} {w wd wa w4 : World} {y z : Rw Int} (hw : w.heap.size ≤ wd.heap.size) (h1 : IntsAns l wd wa y) (hb1 : Below wd.heap.size wd wa) (h2 : IntsAns m wa w4 z) (hb : Below wa.heap.size wa w4) : ∃ S T, Ints2Ans l m w w4 y z S T := by
  have q1 := hb1.size
  have q2 := hb.size
  exact ⟨_, _, h1.v0, h2.v0, Nst.keepB h1.o0 hb, h2.o0, fun i hi => ⟨by have := hi.1; omega, by have := hi.2; omega⟩, fun i hi => ⟨by have := hi.1; omega, hi.2⟩, fun i h h' => by have := h.2; have := h'.1; omega⟩
theorem ints2_ba {l m : List Int} {w wd wa w4 : World} {y z : Rw Int} (hw : w.heap.size ≤ wd.heap.size) (h1 : IntsAns m wd wa z) (hb1 : Below wd.heap.size wd wa) (h2 : IntsAns l wa w4 y) (hb : Below wa.heap.size wa w4) : ∃ S T, Ints2Ans l m w w4 y z S T := by
  have q1 := hb1.size
  have q2 := hb.size
  exact ⟨_, _, h2.v0, h1.v0, h2.o0, Nst.keepB h1.o0 hb, fun i hi => ⟨by have := hi.1; omega, hi.2⟩, fun i hi => ⟨by have := hi.1; omega, by have := hi.2; omega⟩, fun i h h' => by have := h'.2; have := h.1; omega⟩
set_option maxHeartbeats 4000000 in
set_option maxRecDepth 20000 in
theorem sJudgeMarks_any (x : Mr) (j : Int) (w : World) (hr : MrIn w w.heap.size x) (hl : MrFits x) :
    Calls Try.prog 19 #[x.val, .int .i64 j] w fun e w' => (∃ (y t : Rw Int) (S T : Nat → Prop), e = .returned (.tuple #[.slice y.A y.xs.length y.c, .slice t.A t.xs.length t.c, .bool (pB (MkHas (ctt x.G) (ctt x.C) j))]) ∧ Ints2Ans (jmG (ctt x.G) (ctt x.C) j) (jmC (ctt x.G) (ctt x.C) j) w w' y t S T) ∧ Below w.heap.size w w' := by
  have hb0 := below_alloc w (.cells #[.slice x.G.A x.G.xs.length x.G.c, .slice x.C.A x.C.xs.length x.C.c] 27)
  have HB0 := Lib.hid hb0
  have HR := Lib.hid (hr.next hb0)
  have HF := Lib.hid hl
  have HX := Lib.hid (mrBox_new w 27 x)
  have HC := Lib.hid (mkHas_any x j _ (hr.next hb0) hl)
  clear hr hl hb0
  unfold Mr.val at HC ⊢
  by_cases h1 : MkHas (ctt x.G) (ctt x.C) j
  rotate_left
  · rw [pB_no h1] at HC ⊢
    rw [(jm_no h1).1, (jm_no h1).2]
    clear h1
    go_enter Try.func19, Try.ntmps19
    go_wp2_with (go_at_call 48; refine HC.out.mono ?_; rintro e w1 ⟨rfl, hb1⟩; have HB1 := Lib.hid (below_next HB0.out hb1); clear hb1)
    go_returns
    exact ⟨⟨⟨none, 0, []⟩, ⟨none, 0, []⟩, fun _ => False, fun _ => False, rfl, rfl, rfl, Owned.nil _ _ _, Owned.nil _ _ _, fun _ h => h.elim, fun _ h => h.elim, fun _ h => h.elim⟩, HB1.out⟩
  rw [pB_yes h1] at HC ⊢
  rw [(jm_yes h1).1, (jm_yes h1).2]
  have HCG := Lib.hid (fun w' hr' => mkColumn_any x.G j.toNat w' hr' HF.out.g (h1.cols h1.ok.gs))
  have HCC := Lib.hid (fun w' hr' => mkColumn_any x.C j.toNat w' hr' HF.out.c (h1.cols h1.ok.cs))
  obtain ⟨n, rfl⟩ : ∃ n : Nat, j = (n : Int) := ⟨j.toNat, by have := h1.lo; omega⟩
  rw [Int.toNat_natCast] at HCG HCC ⊢
  clear h1
  go_enter Try.func19, Try.ntmps19
  go_wp2_with (go_at_call 48; refine HC.out.mono ?_; rintro e w1 ⟨rfl, hb1⟩; have HB1 := Lib.hid (below_next HB0.out hb1); have HX1 := Lib.hid (HX.out.next hb1); have HR1 := Lib.hid (HR.out.next hb1); clear hb1)
  have HBd := Lib.hid (below_next HB1.out (below_drew w1))
  have HXd := Lib.hid (HX1.out.next (below_drew w1))
  have HRd := Lib.hid (HR1.out.next (below_drew w1))
  clear HC HB1 HX1 HR1
  go_region_held3 (fun w' => w'.cell? ⟨w.heap.size, 0, none⟩ = some (.slice x.G.A x.G.xs.length x.G.c) ∧ w'.cell? ⟨w.heap.size, 1, none⟩ = some (.slice x.C.A x.C.xs.length x.C.c))
    (first | exact ⟨HXd.out.mem.c0, HXd.out.mem.c1⟩ | exact ⟨HXa.out.mem.c0, HXa.out.mem.c1⟩ | exact ⟨HXb.out.mem.c0, HXb.out.mem.c1⟩)
    (first
      | (go_at_call 49; (with_reducible refine (HCG.out _ HRd.out.g).mono ?_); rintro e wa ⟨⟨y, rfl, hy⟩, hb⟩; have HBa := Lib.hid (below_next HBd.out hb); have HXa := Lib.hid (HXd.out.next hb); have HRa := Lib.hid (HRd.out.next hb); have HYa := Lib.hid hy; have HLa := Lib.hid hb; clear hy hb)
      | (go_at_call 49; (with_reducible refine (HCC.out _ HRa.out.c).mono ?_); rintro e wb ⟨⟨t, rfl, ht⟩, hb⟩; have HBb := Lib.hid (below_next HBa.out hb); have HXb := Lib.hid (HXa.out.next hb); have HA := Lib.hid (ints2_ab HBd.out.size HYa.out HLa.out ht hb); clear ht hb)
      | (go_at_call 49; (with_reducible refine (HCC.out _ HRd.out.c).mono ?_); rintro e wa ⟨⟨t, rfl, ht⟩, hb⟩; have HBa := Lib.hid (below_next HBd.out hb); have HXa := Lib.hid (HXd.out.next hb); have HRa := Lib.hid (HRd.out.next hb); have HYa := Lib.hid ht; have HLa := Lib.hid hb; clear ht hb)
      | (go_at_call 49; (with_reducible refine (HCG.out _ HRa.out.g).mono ?_); rintro e wb ⟨⟨y, rfl, hy⟩, hb⟩; have HBb := Lib.hid (below_next HBa.out hb); have HXb := Lib.hid (HXa.out.next hb); have HA := Lib.hid (ints2_ba HBd.out.size HYa.out HLa.out hy hb); clear hy hb)
      | fail)
  all_goals
    go_wp2
    go_returns
    obtain ⟨S, T, hA⟩ := HA.out
    exact ⟨⟨y, t, S, T, rfl, hA⟩, HBb.out⟩
set_option maxHeartbeats 4000000 in
set_option maxRecDepth 20000 in
theorem iJudgeMarks_any (x : Mr) (j : Int) (w : World) (hr : MrIn w w.heap.size x) (hl : MrFits x) :
    Calls Try.prog 20 #[x.val, .int .i64 j] w fun e w' => (∃ (y t : Rw Int) (S T : Nat → Prop), e = .returned (.tuple #[.slice y.A y.xs.length y.c, .slice t.A t.xs.length t.c, .bool (pB (MkHas (ctt x.G) (ctt x.C) j))]) ∧ Ints2Ans (jmG (ctt x.G) (ctt x.C) j) (jmC (ctt x.G) (ctt x.C) j) w w' y t S T) ∧ Below w.heap.size w w' := by
  have hb0 := below_alloc w (.cells #[.slice x.G.A x.G.xs.length x.G.c, .slice x.C.A x.C.xs.length x.C.c] 27)
  have HB0 := Lib.hid hb0
  have HR := Lib.hid (hr.next hb0)
  have HF := Lib.hid hl
  have HX := Lib.hid (mrBox_new w 27 x)
  have HC := Lib.hid (hasJudge_any x j _ (hr.next hb0) hl)
  clear hr hl hb0
  unfold Mr.val at HC ⊢
  by_cases h1 : MkHas (ctt x.G) (ctt x.C) j
  rotate_left
  · rw [pB_no h1] at HC ⊢
    rw [(jm_no h1).1, (jm_no h1).2]
    clear h1
    go_enter Try.func20, Try.ntmps20
    go_wp2_with (go_at_call 50; refine HC.out.mono ?_; rintro e w1 ⟨rfl, hb1⟩; have HB1 := Lib.hid (below_next HB0.out hb1); clear hb1)
    go_returns
    exact ⟨⟨⟨none, 0, []⟩, ⟨none, 0, []⟩, fun _ => False, fun _ => False, rfl, rfl, rfl, Owned.nil _ _ _, Owned.nil _ _ _, fun _ h => h.elim, fun _ h => h.elim, fun _ h => h.elim⟩, HB1.out⟩
  rw [pB_yes h1] at HC ⊢
  rw [(jm_yes h1).1, (jm_yes h1).2]
  have HCG := Lib.hid (fun w' hr' => columnOf_any x.G j.toNat w' hr' HF.out.g (h1.cols h1.ok.gs))
  have HCC := Lib.hid (fun w' hr' => columnOf_any x.C j.toNat w' hr' HF.out.c (h1.cols h1.ok.cs))
  obtain ⟨n, rfl⟩ : ∃ n : Nat, j = (n : Int) := ⟨j.toNat, by have := h1.lo; omega⟩
  rw [Int.toNat_natCast] at HCG HCC ⊢
  clear h1
  go_enter Try.func20, Try.ntmps20
  go_wp2_with (go_at_call 50; refine HC.out.mono ?_; rintro e w1 ⟨rfl, hb1⟩; have HB1 := Lib.hid (below_next HB0.out hb1); have HX1 := Lib.hid (HX.out.next hb1); have HR1 := Lib.hid (HR.out.next hb1); clear hb1)
  have HBd := Lib.hid (below_next HB1.out (below_drew w1))
  have HXd := Lib.hid (HX1.out.next (below_drew w1))
  have HRd := Lib.hid (HR1.out.next (below_drew w1))
  clear HC HB1 HX1 HR1
  go_region_held3 (fun w' => w'.cell? ⟨w.heap.size, 0, none⟩ = some (.slice x.G.A x.G.xs.length x.G.c) ∧ w'.cell? ⟨w.heap.size, 1, none⟩ = some (.slice x.C.A x.C.xs.length x.C.c))
    (first | exact ⟨HXd.out.mem.c0, HXd.out.mem.c1⟩ | exact ⟨HXa.out.mem.c0, HXa.out.mem.c1⟩ | exact ⟨HXb.out.mem.c0, HXb.out.mem.c1⟩)
    (first
      | (go_at_call 51; (with_reducible refine (HCG.out _ HRd.out.g).mono ?_); rintro e wa ⟨⟨y, rfl, hy⟩, hb⟩; have HBa := Lib.hid (below_next HBd.out hb); have HXa := Lib.hid (HXd.out.next hb); have HRa := Lib.hid (HRd.out.next hb); have HYa := Lib.hid hy; have HLa := Lib.hid hb; clear hy hb)
      | (go_at_call 51; (with_reducible refine (HCC.out _ HRa.out.c).mono ?_); rintro e wb ⟨⟨t, rfl, ht⟩, hb⟩; have HBb := Lib.hid (below_next HBa.out hb); have HXb := Lib.hid (HXa.out.next hb); have HA := Lib.hid (ints2_ab HBd.out.size HYa.out HLa.out ht hb); clear ht hb)
      | (go_at_call 51; (with_reducible refine (HCC.out _ HRd.out.c).mono ?_); rintro e wa ⟨⟨t, rfl, ht⟩, hb⟩; have HBa := Lib.hid (below_next HBd.out hb); have HXa := Lib.hid (HXd.out.next hb); have HRa := Lib.hid (HRd.out.next hb); have HYa := Lib.hid ht; have HLa := Lib.hid hb; clear ht hb)
      | (go_at_call 51; (with_reducible refine (HCG.out _ HRa.out.g).mono ?_); rintro e wb ⟨⟨y, rfl, hy⟩, hb⟩; have HBb := Lib.hid (below_next HBa.out hb); have HXb := Lib.hid (HXa.out.next hb); have HA := Lib.hid (ints2_ba HBd.out.size HYa.out HLa.out hy hb); clear hy hb)
      | fail)
  all_goals
    go_wp2
    go_returns
    obtain ⟨S, T, hA⟩ := HA.out
    exact ⟨⟨y, t, S, T, rfl, hA⟩, HBb.out⟩
end Go.Proofs.Ytfeffkjmjkddnaa
