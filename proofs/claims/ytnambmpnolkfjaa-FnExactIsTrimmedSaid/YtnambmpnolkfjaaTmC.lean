/- A copy of a list of numbers, by rising numbers of them, told by a function without captures; marks in rising order. -/
import Derived.Test.YtnambmpnolkfjaaPnX
import Derived.Test.YtnambmpnolkfjaaTmA
namespace Go.Proofs.Ytnambmpnolkfjaa
open Go.ChangeShapes Go.WideShapes Go.ChangeAt Go.RowKit Go.Lib Go.Sort Go.Proofs
set_option linter.unusedVariables false

set_option maxHeartbeats 4000000 in
set_option maxRecDepth 100000 in
theorem sbC0_any (G : Nat) (q : Nat) (u v a b : Int) (W : World) (eG : ∀ args w, (callFunc G args).run Try.prog w = .ok (.enter G args) w) (hq : ∀ k, (W.drewN k).cell? ⟨q, 0, none⟩ = some (.func (.func G) #[] #[])) (hu : ∀ k, Calls Try.prog G (#[.int .i64 u] ++ #[]) (W.drewN k) fun e w' => e = .returned (.int .i64 a) ∧ w' = W.drewN k) (hv : ∀ k, Calls Try.prog G (#[.int .i64 v] ++ #[]) (W.drewN k) fun e w' => e = .returned (.int .i64 b) ∧ w' = W.drewN k) :
    Calls Try.prog 109 #[.int .i64 u, .int .i64 v, .pointer (some ⟨q, 0, none⟩)] W fun e w' => e = .returned (.int .i64 (cmpI a b)) ∧ ∃ k, w' = W.drewN k := by
  have mixed : Try.prog.follows .mixedOrders = true := by kernel_rfl
  go_enter Try.func109, Try.ntmps109
  go_wp2_with fail
  go_quiet (first | (go_at_fn G; first | exact Calls.quiet_of_same (hu _) | exact Calls.quiet_of_same (hv _)) | (go_at_call 110; exact Calls.quiet_of_same ((compare_any _ _ _).mono fun _ _ h => ⟨h.1, h.2.symm⟩)))
  go_wp2
  go_ret
  exact ⟨rfl, _, rfl⟩
theorem sortedBy0_any (G : Nat) (num : Int → Int) (b o c : Nat) (l : List Int) (w : World) (eG : ∀ args w, (callFunc G args).run Try.prog w = .ok (.enter G args) w) (hl : l.length < 40) (hbo : b < w.heap.size) (hc : ∀ i, i < l.length → w.cell? ⟨b, o + i, none⟩ = some (.int .i64 (it l i)))
    (hN : ∀ W' : World, (∀ a : Addr, a.block < w.heap.size → W'.cell? a = w.cell? a) → ∀ i : Nat, Calls Try.prog G (#[.int .i64 (it l i)] ++ #[]) W' fun e w' => e = .returned (.int .i64 (num (it l i))) ∧ w' = W') :
    Calls Try.prog 96 #[.slice (some ⟨b, o, none⟩) l.length c, .func (.func G) #[] #[]] w fun e w' => ∃ g cap d, e = .returned (.slice (some ⟨g, 0, none⟩) l.length cap) ∧ SrtOf num l d ∧ OwnAt w' g 0 (d.toList.map (it l)) ∧ w.heap.size ≤ g ∧ g < w'.heap.size ∧ Below w.heap.size w w' := by
  obtain ⟨W1, hW1⟩ : ∃ W1, W1 = w.alloc (.cells #[.func (.func G) #[] #[]] 68) := ⟨_, rfl⟩
  have hsz : W1.heap.size = w.heap.size + 1 := by rw [hW1]; simp
  have hb1 : Below w.heap.size w W1 := by rw [hW1]; exact below_alloc w _
  have hq1 : W1.cell? ⟨w.heap.size, 0, none⟩ = some (.func (.func G) #[] #[]) := by rw [hW1]; simp
  have hcl := cloneL_any b o c l W1 (fun i hi => (hb1.cell (p := ⟨b, o + i, none⟩) hbo).trans (hc i hi)) (by omega)
  have HCL := Lib.hid hcl
  have HB1 := Lib.hid hb1
  have HQ1 := Lib.hid hq1
  have HNN := Lib.hid hN
  have HEG := Lib.hid eG
  have ec : ∀ args w, (callFunc 109 args).run Try.prog w = .ok (.enter 109 args) w := enters_of Try.func109 (by kernel_rfl) rfl
  clear hcl hb1 hq1 hN eG hc
  go_enter Try.func96, Try.ntmps96
  go_wp2_with fail
  rw [← hW1]
  clear hW1
  refine HCL.out.mono ?_
  rintro e w2 ⟨g, cap, rfl, ho, hg1, hg2, hb2⟩
  have HB2 := Lib.hid (Below_next HB1.out hb2)
  have HR := Lib.hid (row_of_own ho hg2)
  have HB3 := Lib.hid hb2
  have hcmp : CmpLays1 Try.prog 109 #[.pointer (some ⟨w.heap.size, 0, none⟩)] (encI l) (cfK fun i => num (it l i)) g 0 (Array.range l.length).size w2 := fun m os dk hs x y => by
    have hsw : SW (encI l) w2 g 0 dk (sortWorld (encI l) w2 g 0 m dk os) := ⟨m, os, rfl⟩
    have hcell : ∀ k (a : Addr), a.block < g → ((sortWorld (encI l) w2 g 0 m dk os).drewN k).cell? a = w2.cell? a := fun k a ha => (sw_below (hsw.drewN k) hg2).cell (p := a) ha
    have hag : ∀ k (a : Addr), a.block < w.heap.size → ((sortWorld (encI l) w2 g 0 m dk os).drewN k).cell? a = w.cell? a := fun k a ha => (hcell k a (by omega)).trans (HB2.out.cell (p := a) ha)
    have h := sbC0_any G w.heap.size (it l x) (it l y) (num (it l x)) (num (it l y)) (sortWorld (encI l) w2 g 0 m dk os) HEG.out (fun k => (hcell k ⟨w.heap.size, 0, none⟩ (by show w.heap.size < g; omega)).trans ((HB3.out.cell (p := ⟨w.heap.size, 0, none⟩) (by show w.heap.size < W1.heap.size; omega)).trans HQ1.out)) (fun k => HNN.out _ (hag k) x) (fun k => HNN.out _ (hag k) y)
    refine Calls.mono h ?_
    rintro e w' ⟨rfl, k, rfl⟩
    exact ⟨rfl, k, #[], by rw [grow_empty]⟩
  have hst := sortStable_any (fun i => num (it l i)) l 109 #[.pointer (some ⟨w.heap.size, 0, none⟩)] g 0 cap (Array.range l.length) (Array.range l.length) w2 w2 ec hcmp HR.out rfl (SW.start HR.out.hH) (by simpa using hl) (fun i j hij hj => by
    have hj' : j < l.length := by simpa using hj
    rw [range_get _ _ hj', range_get _ _ (by omega)]
    exact hij)
  rw [Array.size_range] at hst
  have HST := Lib.hid hst
  clear hst hcmp ho hb2 ec
  go_wp2_with (first | (go_at_call 108; refine HST.out.mono ?_; rintro e9 w9 ⟨rfl, hso⟩; have HO := Lib.hid hso; clear hso))
  go_ret
  obtain ⟨d, k1, k2, k3, k4⟩ := HO.out
  have k2' : d.size = l.length := k2.trans Array.size_range
  have hb9 := sw_below k1 hg2
  exact ⟨g, cap, d, rfl, ⟨k2', k3, k4⟩, own_of_sw k1 HR.out k2, by omega, Nat.lt_of_lt_of_le hg2 hb9.size, HB2.out.trans (hb9.mono (by omega))⟩

namespace One
theorem perm_toList {n : Nat} {d : Array Nat} (h : PermIn 0 n (Array.range n) d) (hs : d.size = n) : d.toList.Perm (List.range n) := by
  have := h.2.2
  have e1 : (Array.range n).extract 0 n = Array.range n := by
    have : (Array.range n).extract 0 (Array.range n).size = Array.range n := Array.extract_size
    rwa [Array.size_range] at this
  have e2 : d.extract 0 n = d := by
    have : d.extract 0 d.size = d := Array.extract_size
    rwa [hs] at this
  rw [e1, e2] at this
  simpa using this
theorem it_ix (xs : List Int) (i : Nat) : it xs i = ix xs i := rfl
theorem map_range (xs : List Int) : (List.range xs.length).map (it xs) = xs := by
  apply List.ext_getElem
  · simp
  · intro i h1 h2
    simp only [List.getElem_map, List.getElem_range]
    rw [it_ix, ix_get _ _ h2]
theorem srt_asc {xs : List Int} {d : Array Nat} (h : SrtOf (fun x => x) xs d) : d.toList.map (it xs) = asc xs := by
  have hp := perm_toList h.pm h.sz
  have hm := hp.map (it xs)
  rw [map_range] at hm
  refine asc_eq hm (fun i j hij hj => ?_)
  have hl : (d.toList.map (it xs)).length = xs.length := by simp [h.sz]
  have hj' : j < d.size := by rw [h.sz, ← hl]; exact hj
  have hk := h.srt i j (Nat.zero_le _) hij (by rw [← hl]; exact hj)
  have e : ∀ t, t < d.size → ix (d.toList.map (it xs)) t = it xs d[t]! := fun t ht => by
    rw [ix_get _ _ (by simpa using ht), List.getElem_map, getElem!_pos d t ht]
    rfl
  rw [e i (by omega), e j hj']
  rcases hk with hk | hk
  · exact Int.le_of_lt hk
  · exact Int.le_of_eq hk.1
theorem idMark_any (v : Int) (w : World) : Calls Try.prog 97 (#[.int .i64 v] ++ #[]) w fun e w' => e = .returned (.int .i64 v) ∧ w' = w := by
  show Calls Try.prog 97 #[.int .i64 v] w _
  go_enter Try.func97, Try.ntmps97
  go_wp2
  go_ret
  exact ⟨rfl, rfl⟩
theorem inOrder_any (A : Option Addr) (c : Nat) (xs : List Int) (w : World) (hr : Ints w w.heap.size A xs) (h : TmOk xs) :
    Calls Try.prog 63 #[.slice A xs.length c] w fun e w' => ∃ g cap, e = .returned (.slice (some ⟨g, 0, none⟩) xs.length cap) ∧ (∀ i, i < xs.length → w'.cell? ⟨g, i, none⟩ = some (.int .i64 (ix (asc xs) i))) ∧ w.heap.size ≤ g ∧ g < w'.heap.size ∧ Below w.heap.size w w' := by
  obtain ⟨b, o, rfl, hbl, hc⟩ := hr h.lo
  have HC := Lib.hid (sortedBy0_any 97 (fun x => x) b o c xs w (enters_of Try.func97 (by kernel_rfl) rfl) (by have := h.hi; omega) hbl hc (fun W _ i => idMark_any _ W))
  clear hr hc
  go_enter Try.func63, Try.ntmps63
  go_wp2_with (go_at_call 96; refine HC.out.mono ?_; rintro e w2 ⟨g, cap, d, rfl, hs, ho, hg1, hg2, hb⟩; have HS := Lib.hid hs; have HO := Lib.hid ho; have HB := Lib.hid hb; clear hs ho hb)
  go_ret
  refine ⟨g, cap, rfl, fun i hi => ?_, hg1, hg2, HB.out⟩
  have ho := HO.out
  rw [srt_asc HS.out] at ho
  have h0 := (ho.int i (by rw [asc_len]; exact hi)).c0
  rw [Nat.zero_add] at h0
  exact h0
end One
end Go.Proofs.Ytnambmpnolkfjaa
