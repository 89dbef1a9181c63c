/- Reading points without a sign in the model. -/
import Derived.Test.YtngbkflfobcgaaaDoorReadP
namespace Go.Proofs.YtngbkflfobcgaaaDoor
open Go.ChangeShapes Go.WideShapes Go.ChangeAt Go.RowKit Go.PlainAid
set_option linter.unusedVariables false

set_option maxHeartbeats 4000000 in
theorem poRead_plain (s : ByteArray) (w : World) (hs : s.size ≤ 1048576) (h45 : s.size = 0 ∨ bt s 0 ≠ 45) :
    Calls Tryd.prog 13 #[.string s] w (Reads2 s w) := by
  have KEY : Hid (∀ n, -1000000 ≤ n → n ≤ 1000000 → PX n = s → ∃ m, 0 ≤ m ∧ m ≤ 1000000 ∧ s = PT m ∧ n = m) := Lib.hid (fun n h1 h2 e => by
    by_cases hn : n < 0
    · have := (PX_first n hn).1
      rw [e] at this
      rcases h45 with h | h
      · have hz : bt s 0 = 0 := bt_end s (by omega)
        omega
      · exact absurd this h
    · exact ⟨n, by omega, h2, by rw [← e]; exact PX_pos n hn, rfl⟩)
  have HTS := Lib.hid hs
  have hbt := get_bt s
  have h45' : (s.toList = [] ∧ (!s.toList.isEmpty) = false) ∨ (0 < s.size ∧ ¬ s.toList = [] ∧ (!s.toList.isEmpty) = true ∧ (bt s 0 == 45) = false) := by
    by_cases h : s.size = 0
    · left
      have e : s.toList = [] := by rw [Go.ByteArray.toList_eq]; exact List.eq_nil_of_length_eq_zero h
      exact ⟨e, by rw [e]; rfl⟩
    · right
      have hne : ¬ s.toList = [] := by rw [Go.ByteArray.toList_eq]; intro e; have : s.data.toList.length = s.size := rfl; rw [e] at this; simp at this; omega
      exact ⟨by omega, hne, by simpa using hne, by rw [beq_eq_false_iff_ne]; exact h45.resolve_left h⟩
  clear h45
  rcases h45' with ⟨n1, n2⟩ | ⟨n1, n2, n3, n4⟩
  · have hlen : (splitL 46 s.data.toList).length = 1 := by rw [← Go.ByteArray.toList_eq, n1]; rfl
    have HLEN := Lib.hid hlen
    go_enter Tryd.func13, Tryd.ntmps13
    go_wp2_with fail
    refine (l1Split_any s 46 _ HTS.out (by omega) (by omega)).mono ?_
    rintro e w1 ⟨v, rfl, ho, hb⟩
    have HB := Lib.hid hb
    clear hb
    rcases Joins.ownsRow_forms ho with ⟨rfl, h0⟩ | ⟨g, cap, rfl⟩
    · exact absurd h0 (by rw [hlen]; omega)
    rw [hlen]
    clear ho hlen
    go_wp2
    go_ret2
    exact ⟨.inr ⟨no_text KEY.out (fun m h0 h1 e => by
      have := HLEN.out
      rw [e, PT_split m h0] at this
      simp at this), rfl⟩, HB.out⟩
  go_enter Tryd.func13, Tryd.ntmps13
  go_wp2_with fail
  refine (l1Split_any s 46 _ HTS.out (by omega) (by omega)).mono ?_
  rintro e w1 ⟨v, rfl, ho, hb⟩
  have HB := Lib.hid hb
  clear hb
  have hpos := split_pos 46 s.data.toList []
  rcases Joins.ownsRow_forms ho with ⟨rfl, h0⟩ | ⟨g, cap, rfl⟩
  · exact absurd h0 (by unfold splitL; omega)
  clear hpos
  by_cases h2 : (splitL 46 s.data.toList).length = 2
  · obtain ⟨p0, p1, hP⟩ : ∃ p0 p1, splitL 46 s.data.toList = [p0, p1] := by
      match splitL 46 s.data.toList, h2 with
      | [a, b], _ => exact ⟨a, b, rfl⟩
    obtain ⟨q0, rfl⟩ : ∃ q : ByteArray, p0 = q.data.toList := ⟨⟨p0.toArray⟩, by simp⟩
    obtain ⟨q1, rfl⟩ : ∃ q : ByteArray, p1 = q.data.toList := ⟨⟨p1.toArray⟩, by simp⟩
    have c0 : w1.cell? ⟨g, 0, none⟩ = some (.string q0) := by rw [ho.cellAt 0 (by rw [h2]; omega), hP]; rfl
    have c1 : w1.cell? ⟨g, 1, none⟩ = some (.string q1) := by rw [ho.cellAt 1 (by rw [h2]; omega), hP]; rfl
    have hq0s : q0.size ≤ 1048576 := by
      have := split_len 46 s.data.toList [] q0.data.toList (by show _ ∈ splitL 46 s.data.toList; rw [hP]; simp)
      have e : q0.data.toList.length = q0.size := rfl
      have e2 : s.data.toList.length = (s).size := rfl
      have := HTS.out
      simp at *
      omega
    have HP := Lib.hid hP
    rw [h2]
    clear ho hP h2
    by_cases hq1 : (q1.size : Int) = 2
    · have x1 : (q1.size : Int) ≤ 2 := by omega
      have x2 : 2 ≤ (q1.size : Int) := by omega
      have hq1' : q1.size = 2 := by omega
      have hbt1 := get_bt q1
      have z0 : (0 : Int) < (q1.size : Int) := by omega
      have z1 : (1 : Int) < (q1.size : Int) := by omega
      have HQ := Lib.hid hq1'
      clear hq1 hq1'
      by_cases hr : readB q0 < 0
      · go_wp2_with (go_at_call 18; refine (l1Read_any q0 _ hq0s).mono ?_; rintro e w' ⟨rfl, rfl, hr1, hr2⟩)
        go_ret2
        exact ⟨.inr ⟨no_text KEY.out (fun m h0 h1 e => by
          have := parse_val m h0 h1 e HP.out
          have := this.2.1
          omega), rfl⟩, HB.out⟩
      · go_wp2_with (go_at_call 18; refine (l1Read_any q0 _ hq0s).mono ?_; rintro e w' ⟨rfl, rfl, hr1, hr2⟩)
        go_loop [7, 8] (fun n i => ∃ (k : Nat) (N : Int), k ≤ 2 ∧ i = .int .i64 k ∧ n = .int .i64 N ∧ N = valN (readB q0) q1 k ∧ 0 ≤ N ∧ Hid (N < 1000000 * pb k)) (fun _ i => 2 - (intOf i).toNat)
        case atStart => exact ⟨0, readB q0, by omega, rfl, rfl, rfl, by omega, Lib.hid (by show readB q0 < 1000000 * 1; omega)⟩
        case round =>
          obtain ⟨k, N, hk, rfl, rfl, hN, hN0, HN⟩ := hrel
          have HNV := Lib.hid hN
          clear hN
          by_cases hlt : k < 2
          · have hN2 : N ≤ 10000000 := by
              have := HN.out
              have hk' : k = 0 ∨ k = 1 := by omega
              rcases hk' with rfl | rfl <;> simp [pb] at this <;> omega
            have z2 : (k : Int) < (q1.size : Int) := by omega
            have z3 : (0 : Int) ≤ (k : Int) := by omega
            have z4 : k < q1.size := by omega
            by_cases d1 : 48 ≤ bt q1 k
            · by_cases d2 : bt q1 k ≤ 57
              · go_wp2
                go_round
                case rel => exact ⟨k + 1, 10 * N + (bt q1 k - 48), by omega, by go_num, by go_num, by rw [HNV.out]; rfl, by omega, Lib.hid (by have := HN.out; show _ < 1000000 * (10 * pb k); omega)⟩
                case measure => simp [intOf]; omega
              · go_wp2
                go_ret2
                exact ⟨.inr ⟨no_text KEY.out (fun m h0 h1 e => by
                  have := (parse_val m h0 h1 e HP.out).2.2.1 k hlt
                  omega), rfl⟩, HB.out⟩
            · go_wp2
              go_ret2
              exact ⟨.inr ⟨no_text KEY.out (fun m h0 h1 e => by
                have := (parse_val m h0 h1 e HP.out).2.2.1 k hlt
                omega), rfl⟩, HB.out⟩
          · obtain rfl : k = 2 := by omega
            have hN2 : N ≤ 100000000 := by
              have := HN.out
              simp [pb] at this
              omega
            by_cases hg : -1000000 ≤ N ∧ N ≤ 1000000
            · obtain ⟨hg1, hg2⟩ := hg
              have HG := Lib.hid hg1
              by_cases hx : PX (N) = s
              · have HX := Lib.hid hx
                clear hx
                go_wp2_with (first | (go_at_call 10; refine (poText_any (N) _ (by omega) (by omega)).mono ?_; rintro e w2 ⟨rfl, hb2⟩; have HB2 := Lib.hid hb2; clear hb2; rw [HX.out]) | (go_at_call 9; go_in) | (go_at_call 14; go_in))
                go_ret2
                exact ⟨.inl ⟨_, HG.out, hg2, HX.out, rfl⟩, Below_then HB.out HB2.out⟩
              · have HX := Lib.hid hx
                have hd := text_ne hx
                clear hx
                go_wp2_with (first | (go_at_call 10; refine (poText_any (N) _ (by omega) (by omega)).mono ?_; rintro e w2 ⟨rfl, hb2⟩; have HB2 := Lib.hid hb2; clear hb2) | (go_at_call 9; go_in) | (go_at_call 14; go_in))
                go_ret2
                exact ⟨.inr ⟨fun n h1 h2 e => by
                  obtain ⟨m, h3, h4, h5, h6⟩ := KEY.out n h1 h2 e
                  have := (parse_val m h3 h4 h5 HP.out).2.2.2
                  have hN' := HNV.out
                  have : n = N := by omega
                  exact HX.out (by rw [← this]; exact e), rfl⟩, Below_then HB.out HB2.out⟩
            · have hg' : 1000000 < N := by omega
              clear hg
              go_wp2_with (first | (go_at_call 9; go_in) | (go_at_call 14; go_in))
              go_ret2
              exact ⟨.inr ⟨no_text KEY.out (fun m h0 h1 e => by
                have h9 := (parse_val m h0 h1 e HP.out).2.2.2
                have h8 := HNV.out
                omega), rfl⟩, HB.out⟩
    · have x1 : (q1.size : Int) < 2 ∨ 2 < (q1.size : Int) := by omega
      have HQ := Lib.hid hq1
      clear hq1
      rcases x1 with x1 | x1
      all_goals
        go_wp2
        go_ret2
        exact ⟨.inr ⟨no_text KEY.out (fun m h0 h1 e => by
          have := (parse_val m h0 h1 e HP.out).1
          have := HQ.out
          omega), rfl⟩, HB.out⟩
  · have H2 := Lib.hid h2
    obtain ⟨L, hL⟩ : ∃ L, (splitL 46 s.data.toList).length = L := ⟨_, rfl⟩
    rw [hL] at h2 ⊢
    have x0 : (L : Int) < 2 ∨ 2 < (L : Int) := by omega
    clear h2 ho hL
    rcases x0 with x0 | x0
    all_goals
      go_wp2
      go_ret2
      exact ⟨.inr ⟨no_text KEY.out (fun m h0 h1 e => H2.out (by rw [e, PT_split m h0]; rfl)), rfl⟩, HB.out⟩
end Go.Proofs.YtngbkflfobcgaaaDoor
