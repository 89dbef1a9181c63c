/- Reading points in the model. -/
import Derived.Test.YtngbkflfobcgaaaDoorReadM
import Derived.Test.YtngbkflfobcgaaaDoorTextL
import Derived.Lib.SmallJoins
namespace Go.Proofs.YtngbkflfobcgaaaDoor
open Go.ChangeShapes Go.WideShapes Go.ChangeAt Go.RowKit Go.PlainAid
set_option linter.unusedVariables false

/-- What reading points leaves: the points with that text, if there are any. -/
def Reads2 (s : ByteArray) (w : World) (e : Ending) (w' : World) : Prop :=
  ((∃ n, -1000000 ≤ n ∧ n ≤ 1000000 ∧ PX n = s ∧ e = .returned (.tuple #[.int .i64 n, .bool true])) ∨
   ((∀ n, -1000000 ≤ n → n ≤ 1000000 → PX n ≠ s) ∧ e = .returned (.tuple #[.int .i64 0, .bool false]))) ∧ Below w.heap.size w w'

def valN (r : Int) (q : ByteArray) : Nat → Int
  | 0 => r
  | k + 1 => 10 * valN r q k + (bt q k - 48)

theorem parse_val {t q0 q1 : ByteArray} (m : Int) (h0 : 0 ≤ m) (h1 : m ≤ 1000000) (e : t = PT m) (hP : splitL 46 t.data.toList = [q0.data.toList, q1.data.toList]) :
    (q1.size : Int) = 2 ∧ 0 ≤ readB q0 ∧ (∀ k, k < 2 → 48 ≤ bt q1 k ∧ bt q1 k ≤ 57) ∧ valN (readB q0) q1 2 = m := by
  rw [e, PT_split m h0] at hP
  simp only [List.cons.injEq, and_true] at hP
  obtain ⟨hq0, hq1⟩ := hP
  have e0 : q0 = ⟨(Lib.decDigits (m / 100).toNat).toArray⟩ := by
    apply ByteArray.ext
    apply Array.ext'
    rw [← hq0]
  have hr : readB q0 = m / 100 := by
    rw [e0, readB_dec _ (by omega)]
    omega
  have d1 := dg_toNat (48 + m / 10 % 10) (by omega) (by omega)
  have d2 := dg_toNat (48 + m % 10) (by omega) (by omega)
  have b0 : bt q1 0 = 48 + m / 10 % 10 := by rw [bt_list, ← hq1]; simpa using d1
  have b1 : bt q1 1 = 48 + m % 10 := by rw [bt_list, ← hq1]; simpa using d2
  have hs : q1.size = 2 := by
    have : q1.data.toList.length = q1.size := rfl
    rw [← this, ← hq1]
    rfl
  refine ⟨by omega, by omega, fun k hk => ?_, ?_⟩
  · have : k = 0 ∨ k = 1 := by omega
    rcases this with rfl | rfl <;> omega
  · show 10 * (10 * readB q0 + (bt q1 0 - 48)) + (bt q1 1 - 48) = m
    omega
theorem no_text {s t : ByteArray} {R : Int → Int → Prop} (key : ∀ n, -1000000 ≤ n → n ≤ 1000000 → PX n = s → ∃ m, 0 ≤ m ∧ m ≤ 1000000 ∧ t = PT m ∧ R n m) (bad : ∀ m, 0 ≤ m → m ≤ 1000000 → t = PT m → False) :
    ∀ n, -1000000 ≤ n → n ≤ 1000000 → PX n ≠ s := fun n h1 h2 e => by
  obtain ⟨m, h3, h4, h5, _⟩ := key n h1 h2 e
  exact bad m h3 h4 h5

theorem text_ne {a b : ByteArray} (h : ¬ a = b) : (!a.toList == b.toList) = true := by
  rw [Go.ByteArray.toList_eq, Go.ByteArray.toList_eq, Bool.not_eq_true', beq_eq_false_iff_ne]
  exact fun e => h (ByteArray.ext (Array.ext' e))
set_option maxHeartbeats 2000000 in
theorem poRead_minus (s : ByteArray) (w : World) (hs : s.size ≤ 1048576) (h0 : 0 < s.size) (h45 : bt s 0 = 45) :
    Calls Tryd.prog 13 #[.string s] w (Reads2 s w) := by
  have KEY : Hid (∀ n, -1000000 ≤ n → n ≤ 1000000 → PX n = s → ∃ m, 0 ≤ m ∧ m ≤ 1000000 ∧ s.extract 1 s.size = PT m ∧ n = -m) := Lib.hid (fun n h1 h2 e => by
    by_cases hn : n < 0
    · exact ⟨-n, by omega, by omega, by rw [← e]; exact (PX_first n hn).2, by omega⟩
    · rw [← e, PX_pos n hn] at h45
      exact absurd h45 (PT_first n (by omega)))
  have HTS : Hid ((s.extract 1 s.size).size ≤ 1048576) := Lib.hid (by rw [ByteArray.size_extract]; omega)
  have hne : ¬ s.toList = [] := by rw [Go.ByteArray.toList_eq]; intro e; have : s.data.toList.length = s.size := rfl; rw [e] at this; simp at this; omega
  have hne2 : (!s.toList.isEmpty) = true := by simpa using hne
  have q45 : (bt s 0 == 45) = true := by simpa using h45
  have hbt := get_bt s
  clear h45
  go_enter Tryd.func13, Tryd.ntmps13
  go_wp2_with fail
  refine (l1Split_any (s.extract 1 s.size) 46 _ HTS.out (by omega) (by omega)).mono ?_
  rintro e w1 ⟨v, rfl, ho, hb⟩
  have HB := Lib.hid hb
  clear hb
  have hpos := split_pos 46 (s.extract 1 s.size).data.toList []
  rcases Joins.ownsRow_forms ho with ⟨rfl, h0⟩ | ⟨g, cap, rfl⟩
  · exact absurd h0 (by unfold splitL; omega)
  clear hpos
  by_cases h2 : (splitL 46 (s.extract 1 s.size).data.toList).length = 2
  · obtain ⟨p0, p1, hP⟩ : ∃ p0 p1, splitL 46 (s.extract 1 s.size).data.toList = [p0, p1] := by
      match splitL 46 (s.extract 1 s.size).data.toList, h2 with
      | [a, b], _ => exact ⟨a, b, rfl⟩
    obtain ⟨q0, rfl⟩ : ∃ q : ByteArray, p0 = q.data.toList := ⟨⟨p0.toArray⟩, by simp⟩
    obtain ⟨q1, rfl⟩ : ∃ q : ByteArray, p1 = q.data.toList := ⟨⟨p1.toArray⟩, by simp⟩
    have c0 : w1.cell? ⟨g, 0, none⟩ = some (.string q0) := by rw [ho.cellAt 0 (by rw [h2]; omega), hP]; rfl
    have c1 : w1.cell? ⟨g, 1, none⟩ = some (.string q1) := by rw [ho.cellAt 1 (by rw [h2]; omega), hP]; rfl
    have hq0s : q0.size ≤ 1048576 := by
      have := split_len 46 (s.extract 1 s.size).data.toList [] q0.data.toList (by show _ ∈ splitL 46 (s.extract 1 s.size).data.toList; rw [hP]; simp)
      have e : q0.data.toList.length = q0.size := rfl
      have e2 : (s.extract 1 s.size).data.toList.length = ((s.extract 1 s.size)).size := rfl
      have := HTS.out
      simp at *
      omega
    have HP := Lib.hid hP
    rw [h2]
    clear ho hP h2
    by_cases hq1 : (q1.size : Int) = 2
    · have x1 : (q1.size : Int) ≤ 2 := by omega
      have x2 : 2 ≤ (q1.size : Int) := by omega
      have hq1' : q1.size = 2 := by omega
      have hbt1 := get_bt q1
      have z0 : (0 : Int) < (q1.size : Int) := by omega
      have z1 : (1 : Int) < (q1.size : Int) := by omega
      have HQ := Lib.hid hq1'
      clear hq1 hq1'
      by_cases hr : readB q0 < 0
      · go_wp2_with (go_at_call 18; refine (l1Read_any q0 _ hq0s).mono ?_; rintro e w' ⟨rfl, rfl, hr1, hr2⟩)
        go_ret2
        exact ⟨.inr ⟨no_text KEY.out (fun m h0 h1 e => by
          have := parse_val m h0 h1 e HP.out
          have := this.2.1
          omega), rfl⟩, HB.out⟩
      · go_wp2_with (go_at_call 18; refine (l1Read_any q0 _ hq0s).mono ?_; rintro e w' ⟨rfl, rfl, hr1, hr2⟩)
        go_loop [7, 8] (fun n i => ∃ (k : Nat) (N : Int), k ≤ 2 ∧ i = .int .i64 k ∧ n = .int .i64 N ∧ N = valN (readB q0) q1 k ∧ 0 ≤ N ∧ Hid (N < 1000000 * pb k)) (fun _ i => 2 - (intOf i).toNat)
        case atStart => exact ⟨0, readB q0, by omega, rfl, rfl, rfl, by omega, Lib.hid (by show readB q0 < 1000000 * 1; omega)⟩
        case round =>
          obtain ⟨k, N, hk, rfl, rfl, hN, hN0, HN⟩ := hrel
          have HNV := Lib.hid hN
          clear hN
          by_cases hlt : k < 2
          · have hN2 : N ≤ 10000000 := by
              have := HN.out
              have hk' : k = 0 ∨ k = 1 := by omega
              rcases hk' with rfl | rfl <;> simp [pb] at this <;> omega
            have z2 : (k : Int) < (q1.size : Int) := by omega
            have z3 : (0 : Int) ≤ (k : Int) := by omega
            have z4 : k < q1.size := by omega
            by_cases d1 : 48 ≤ bt q1 k
            · by_cases d2 : bt q1 k ≤ 57
              · go_wp2
                go_round
                case rel => exact ⟨k + 1, 10 * N + (bt q1 k - 48), by omega, by go_num, by go_num, by rw [HNV.out]; rfl, by omega, Lib.hid (by have := HN.out; show _ < 1000000 * (10 * pb k); omega)⟩
                case measure => simp [intOf]; omega
              · go_wp2
                go_ret2
                exact ⟨.inr ⟨no_text KEY.out (fun m h0 h1 e => by
                  have := (parse_val m h0 h1 e HP.out).2.2.1 k hlt
                  omega), rfl⟩, HB.out⟩
            · go_wp2
              go_ret2
              exact ⟨.inr ⟨no_text KEY.out (fun m h0 h1 e => by
                have := (parse_val m h0 h1 e HP.out).2.2.1 k hlt
                omega), rfl⟩, HB.out⟩
          · obtain rfl : k = 2 := by omega
            have hN2 : N ≤ 100000000 := by
              have := HN.out
              simp [pb] at this
              omega
            by_cases hg : -1000000 ≤ -N ∧ -N ≤ 1000000
            · obtain ⟨hg1, hg2⟩ := hg
              have HG := Lib.hid hg1
              by_cases hx : PX (-N) = s
              · have HX := Lib.hid hx
                clear hx
                go_wp2_with (first | (go_at_call 10; refine (poText_any (-N) _ (by omega) (by omega)).mono ?_; rintro e w2 ⟨rfl, hb2⟩; have HB2 := Lib.hid hb2; clear hb2; rw [HX.out]) | (go_at_call 9; go_in) | (go_at_call 14; go_in))
                go_ret2
                exact ⟨.inl ⟨_, HG.out, hg2, HX.out, rfl⟩, Below_then HB.out HB2.out⟩
              · have HX := Lib.hid hx
                have hd := text_ne hx
                clear hx
                go_wp2_with (first | (go_at_call 10; refine (poText_any (-N) _ (by omega) (by omega)).mono ?_; rintro e w2 ⟨rfl, hb2⟩; have HB2 := Lib.hid hb2; clear hb2) | (go_at_call 9; go_in) | (go_at_call 14; go_in))
                go_ret2
                exact ⟨.inr ⟨fun n h1 h2 e => by
                  obtain ⟨m, h3, h4, h5, h6⟩ := KEY.out n h1 h2 e
                  have := (parse_val m h3 h4 h5 HP.out).2.2.2
                  have hN' := HNV.out
                  have : n = -N := by omega
                  exact HX.out (by rw [← this]; exact e), rfl⟩, Below_then HB.out HB2.out⟩
            · have hg' : -N < -1000000 := by omega
              clear hg
              go_wp2_with (first | (go_at_call 9; go_in) | (go_at_call 14; go_in))
              go_ret2
              exact ⟨.inr ⟨no_text KEY.out (fun m h0 h1 e => by
                have h9 := (parse_val m h0 h1 e HP.out).2.2.2
                have h8 := HNV.out
                omega), rfl⟩, HB.out⟩
    · have x1 : (q1.size : Int) < 2 ∨ 2 < (q1.size : Int) := by omega
      have HQ := Lib.hid hq1
      clear hq1
      rcases x1 with x1 | x1
      all_goals
        go_wp2
        go_ret2
        exact ⟨.inr ⟨no_text KEY.out (fun m h0 h1 e => by
          have := (parse_val m h0 h1 e HP.out).1
          have := HQ.out
          omega), rfl⟩, HB.out⟩
  · have H2 := Lib.hid h2
    obtain ⟨L, hL⟩ : ∃ L, (splitL 46 (s.extract 1 s.size).data.toList).length = L := ⟨_, rfl⟩
    rw [hL] at h2 ⊢
    have x0 : (L : Int) < 2 ∨ 2 < (L : Int) := by omega
    clear h2 ho hL
    rcases x0 with x0 | x0
    all_goals
      go_wp2
      go_ret2
      exact ⟨.inr ⟨no_text KEY.out (fun m h0 h1 e => H2.out (by rw [e, PT_split m h0]; rfl)), rfl⟩, HB.out⟩
end Go.Proofs.YtngbkflfobcgaaaDoor
