/- Valid lists of elements and valid codes, in the program and in the model. -/
import Derived.Test.YtocjkhfghldnnaaDoorCdE
import Derived.BigQuiet
import Derived.Lib.QuietBelow
namespace Go.Proofs.YtocjkhfghldnnaaDoor
open Go.ChangeShapes Go.WideShapes Go.ChangeAt Go.RowKit Go.PlainAid Go.Sort
set_option linter.unusedVariables false

/-- The first k elements are valid and in order. -/
def ElsTo (xs : List El) (k : Nat) : Prop := ∀ j, j < k → ElOk (it xs j) ∧ (0 < j → nlt (it xs (j - 1)).name (it xs j).name = true)
theorem ElsTo.next {xs : List El} {k : Nat} (h : ElsTo xs k) (h1 : ElOk (it xs k)) (h2 : 0 < k → nlt (it xs (k - 1)).name (it xs k).name = true) : ElsTo xs (k + 1) := fun j hj => by
  rcases Nat.lt_or_ge j k with h' | h'
  · exact h j h'
  · obtain rfl : j = k := by omega
    exact ⟨h1, h2⟩
set_option maxHeartbeats 2000000 in
theorem areElements_any (A : Option Addr) (c : Nat) (xs : List El) (w : World) (hr : Lst w w.heap.size A xs) (hf : Fits xs) (ht : Tab w) :
    Calls Tryd.prog 52 #[.slice A xs.length c] w fun e w' => e = .returned (.bool (pB (ElsOk xs))) ∧ Below w.heap.size w w' := by
  have HR := Lib.hid hr
  have HF := Lib.hid hf
  have HT := Lib.hid ht
  clear hr hf ht
  by_cases hl : 1 ≤ xs.length ∧ xs.length ≤ 24
  · obtain ⟨l1, l2⟩ := hl
    go_enter Tryd.func52, Tryd.ntmps52
    go_wp2
    go_loopw [15] (fun i wr => ∃ k : Nat, k ≤ xs.length ∧ i = .int .i64 k ∧ Hid (ElsTo xs k) ∧ Below w.heap.size w wr) (fun i _ => xs.length - (intOf i).toNat)
    case atStart => exact ⟨0, Nat.zero_le _, rfl, Lib.hid (fun j hj => absurd hj (by omega)), Below.refl _ _⟩
    case round =>
      obtain ⟨k, hk, rfl, HI, hb⟩ := hrel
      by_cases hlt : k < xs.length
      · obtain ⟨b, o, rfl, hbl, hc⟩ := HR.out.el (by omega)
        obtain ⟨c0, c1, c2, c3⟩ := (hc k hlt).below hb hbl
        have HB := Lib.hid hb
        have HC := Lib.hid hc
        clear hc hb
        go_wp2
        refine stop_end 6 ⟨?_⟩
        intro w7 hw7
        have hs7 : w7.heap.size = wr.heap.size + 1 := by rw [hw7]; simp
        have hb7 : Below wr.heap.size wr w7 := by rw [hw7]; exact below_alloc _ _
        have e0 : w7.cell? ⟨wr.heap.size, 0, none⟩ = some (.string (it xs k).name) := by rw [hw7]; simp
        have e1 : w7.cell? ⟨wr.heap.size, 1, none⟩ = some (.int .i64 (it xs k).fam) := by rw [hw7]; simp
        have e2 : w7.cell? ⟨wr.heap.size, 2, none⟩ = some (.int .i64 (it xs k).lev) := by rw [hw7]; simp
        have e3 : w7.cell? ⟨wr.heap.size, 3, none⟩ = some (.int .i64 (it xs k).base) := by rw [hw7]; simp
        clear hw7 c0 c1 c2 c3
        have HB7 := Lib.hid (HB.out.trans (hb7.mono HB.out.size))
        have HT7 := Lib.hid (HT.out.next HB7.out)
        have hp7 : 0 < k → w7.cell? ⟨b, o + (k - 1) * 4, none⟩ = some (.string (it xs (k - 1)).name) := fun hz => (((HC.out (k - 1) (by omega)).below HB.out hbl).below hb7 (Nat.lt_of_lt_of_le hbl HB.out.size)).c0
        have hnk := HF.out.2 k hlt
        have cI : ∀ d os, Calls Tryd.prog 67 #[(it xs k).val] (grow (redrawn w7 d) os) fun e w'' => e = .returned (.bool (pB (ElOk (it xs k)))) ∧ ∃ p : Regrown, w'' = grow (redrawn w7 p.d) p.os := fun d os => Calls.regrown_of (isElement_any (it xs k) _ hnk (HT7.out.next (below_regrown w7 d os)))
        have k0 := cell_regrown e0
        have k1 := cell_regrown e1
        have k2 := cell_regrown e2
        have k3 := cell_regrown e3
        clear e0 e1 e2 e3 hs7 hb7
        generalize wr.heap.size = g at *
        by_cases hok : ElOk (it xs k)
        · rw [pB_yes hok] at cI
          rcases Nat.eq_zero_or_pos k with hz | hz
          · subst hz
            have HNX := Lib.hid (HI.out.next hok (fun h => absurd h (by omega)))
            clear hok
            refine wp_region_quiet_below (by kernel_rfl) (by kernel_rfl) ?_
            repeat (go_big_quiet_step (exact cI _ _))
            refine wpQuiet_nil ?_
            intro _ hw'
            obtain ⟨⟨dq, osq⟩, hw''⟩ := hw'
            subst hw''
            have HB8 := Lib.hid (HB7.out.trans ((below_regrown w7 dq osq).mono HB7.out.size))
            generalize grow (redrawn w7 dq) osq = w8 at HB8 ⊢
            go_wp2
            go_roundw
            case rel => exact ⟨0 + 1, by omega, by go_num, HNX.out, HB8.out⟩
            case measure => simp [intOf]; omega
          · obtain ⟨j, rfl⟩ : ∃ j, k = j + 1 := ⟨k - 1, by omega⟩
            have kp := cell_regrown (hp7 hz)
            rw [show j + 1 - 1 = j by omega] at kp
            have j0 : (0 : Int) ≤ (j : Int) := by omega
            have j1 : (j : Int) < (xs.length : Int) := by omega
            by_cases hn : nlt (it xs j).name (it xs (j + 1)).name = true
            · have HNX := Lib.hid (HI.out.next hok (fun _ => hn))
              unfold nlt at hn
              clear hok hp7
              refine wp_region_quiet_below (by kernel_rfl) (by kernel_rfl) ?_
              repeat (go_big_quiet_step (exact cI _ _))
              refine wpQuiet_nil ?_
              intro _ hw'
              obtain ⟨⟨dq, osq⟩, hw''⟩ := hw'
              subst hw''
              have HB8 := Lib.hid (HB7.out.trans ((below_regrown w7 dq osq).mono HB7.out.size))
              generalize grow (redrawn w7 dq) osq = w8 at HB8 ⊢
              go_wp2
              go_roundw
              case rel => exact ⟨j + 1 + 1, by omega, by go_num, HNX.out, HB8.out⟩
              case measure => simp [intOf]; omega
            · have HV := Lib.hid (pB_no (fun h : ElsOk xs => hn (h.ord (j + 1) (by omega) hlt)))
              have hn' : Op.bytesLess (it xs j).name.toList (it xs (j + 1)).name.toList = false := by simpa [nlt] using hn
              clear hok hp7 hn
              refine wp_region_quiet_below (by kernel_rfl) (by kernel_rfl) ?_
              repeat (go_big_quiet_step (exact cI _ _))
              refine wpQuiet_nil ?_
              intro _ hw'
              obtain ⟨⟨dq, osq⟩, hw''⟩ := hw'
              subst hw''
              have HB8 := Lib.hid (HB7.out.trans ((below_regrown w7 dq osq).mono HB7.out.size))
              generalize grow (redrawn w7 dq) osq = w8 at HB8 ⊢
              go_wp2
              go_ret
              exact ⟨by rw [HV.out]; rfl, HB8.out⟩
        · rw [pB_no hok] at cI
          have HV := Lib.hid (pB_no (fun h : ElsOk xs => hok (h.el k hlt)))
          clear hok hp7
          refine wp_region_quiet_below (by kernel_rfl) (by kernel_rfl) ?_
          repeat (go_big_quiet_step (exact cI _ _))
          refine wpQuiet_nil ?_
          intro _ hw'
          obtain ⟨⟨dq, osq⟩, hw''⟩ := hw'
          subst hw''
          have HB8 := Lib.hid (HB7.out.trans ((below_regrown w7 dq osq).mono HB7.out.size))
          generalize grow (redrawn w7 dq) osq = w8 at HB8 ⊢
          go_wp2
          go_ret
          exact ⟨by rw [HV.out]; rfl, HB8.out⟩
      · obtain rfl : k = xs.length := by omega
        have HV := Lib.hid (pB_yes (⟨l1, l2, fun i hi => (HI.out i hi).1, fun i h0 hi => (HI.out i hi).2 h0⟩ : ElsOk xs))
        go_wp2
        go_ret
        exact ⟨by rw [HV.out]; rfl, hb⟩
  · have HV := Lib.hid (pB_no (fun h : ElsOk xs => hl ⟨h.lo, h.hi⟩))
    have h' : xs.length < 1 ∨ 24 < xs.length := by omega
    have hbig := HF.out.1
    clear hl
    rcases h' with h' | h'
    all_goals
      go_enter Tryd.func52, Tryd.ntmps52
      go_wp2
      go_ret
      exact ⟨by rw [HV.out]; rfl, Below.refl _ _⟩
end Go.Proofs.YtocjkhfghldnnaaDoor
