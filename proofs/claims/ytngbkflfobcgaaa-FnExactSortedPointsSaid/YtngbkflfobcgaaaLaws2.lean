/- The walks of chapter 1's laws AddParts and PercentOf: each law answers true at every argument; no conditions. -/
import Derived.Test.YtngbkflfobcgaaaLaws1
namespace Go.Proofs.Ytngbkflfobcgaaa
open Go.ChangeShapes Go.WideShapes Go.ChangeAt Go.RowKit
set_option linter.unusedVariables false
theorem sAdd_yes (a b c d : Int) (w : World) (ha1 : -1000000000000 ≤ a) (ha2 : a ≤ 1000000000000) (hb : 1 ≤ b) (hb2 : b ≤ 1000000) (hc1 : -1000000000000 ≤ c) (hc2 : c ≤ 1000000000000) (hd : 1 ≤ d) (hd2 : d ≤ 1000000) (h : partB (lowA (a * d + c * b) (b * d)) (lowB (a * d + c * b) (b * d))) :
    Calls Try.prog 18 #[.int .i64 a, .int .i64 b, .int .i64 c, .int .i64 d] w fun e w' => e = .returned (.tuple #[.int .i64 (lowA (a * d + c * b) (b * d)), .int .i64 (lowB (a * d + c * b) (b * d)), .bool true]) ∧ ∃ n, w' = w.drewN n := by
  obtain ⟨p1, p2, p3, p4, p5, p6⟩ := prods ha1 ha2 hb hb2 hc1 hc2 hd hd2
  obtain ⟨h1, h2, h3, h4⟩ := h
  skip
  go_enter Try.func18, Try.ntmps18
  go_wp2_with (first | (go_at_call 34; (with_reducible refine (poPart_yes a b _ ha1 ha2 hb hb2).mono ?_); rintro e w' ⟨rfl, rfl⟩) | (go_at_call 34; (with_reducible refine (poPart_yes c d _ hc1 hc2 hd hd2).mono ?_); rintro e w' ⟨rfl, rfl⟩) | (go_at_call 40; refine (poLowest_any _ _ _ (by omega) (by omega) (by omega) (by omega)).mono ?_; rintro e w' ⟨rfl, n, rfl⟩) | (go_at_call 34; (with_reducible refine (poPart_yes _ _ _ h1 h2 h3 h4).mono ?_); rintro e w' ⟨rfl, rfl⟩))
  go_ret3
  exact ⟨rfl, _, rfl⟩
theorem sAdd_over (a b c d : Int) (w : World) (ha1 : -1000000000000 ≤ a) (ha2 : a ≤ 1000000000000) (hb : 1 ≤ b) (hb2 : b ≤ 1000000) (hc1 : -1000000000000 ≤ c) (hc2 : c ≤ 1000000000000) (hd : 1 ≤ d) (hd2 : d ≤ 1000000) (h : ¬ partB (lowA (a * d + c * b) (b * d)) (lowB (a * d + c * b) (b * d))) :
    Calls Try.prog 18 #[.int .i64 a, .int .i64 b, .int .i64 c, .int .i64 d] w fun e w' => e = .returned (.tuple #[.int .i64 0, .int .i64 0, .bool false]) ∧ ∃ n, w' = w.drewN n := by
  obtain ⟨p1, p2, p3, p4, p5, p6⟩ := prods ha1 ha2 hb hb2 hc1 hc2 hd hd2
  have H := Lib.hid h
  clear h
  go_enter Try.func18, Try.ntmps18
  go_wp2_with (first | (go_at_call 34; (with_reducible refine (poPart_yes a b _ ha1 ha2 hb hb2).mono ?_); rintro e w' ⟨rfl, rfl⟩) | (go_at_call 34; (with_reducible refine (poPart_yes c d _ hc1 hc2 hd hd2).mono ?_); rintro e w' ⟨rfl, rfl⟩) | (go_at_call 40; refine (poLowest_any _ _ _ (by omega) (by omega) (by omega) (by omega)).mono ?_; rintro e w' ⟨rfl, n, rfl⟩) | (go_at_call 34; (with_reducible refine (poPart_no _ _ _ H.out).mono ?_); rintro e w' ⟨rfl, rfl⟩))
  go_ret3
  exact ⟨rfl, _, rfl⟩
theorem sAdd_no (a b c d : Int) (w : World) (h : ¬ partB a b ∨ (partB a b ∧ ¬ partB c d)) :
    Calls Try.prog 18 #[.int .i64 a, .int .i64 b, .int .i64 c, .int .i64 d] w fun e w' => e = .returned (.tuple #[.int .i64 0, .int .i64 0, .bool false]) ∧ ∃ n, w' = w.drewN n := by
  rcases h with h | ⟨⟨h1, h2, h3, h4⟩, h⟩
  all_goals
    have H := Lib.hid h
    clear h
    go_enter Try.func18, Try.ntmps18
    go_wp2_with (first | (go_at_call 34; (with_reducible refine (poPart_yes _ _ _ h1 h2 h3 h4).mono ?_); rintro e w' ⟨rfl, rfl⟩) | (go_at_call 34; (with_reducible refine (poPart_no _ _ _ H.out).mono ?_); rintro e w' ⟨rfl, rfl⟩))
    go_ret3
    exact ⟨rfl, 0, rfl⟩
theorem iAdd_yes (a b c d : Int) (w : World) (ha1 : -1000000000000 ≤ a) (ha2 : a ≤ 1000000000000) (hb : 1 ≤ b) (hb2 : b ≤ 1000000) (hc1 : -1000000000000 ≤ c) (hc2 : c ≤ 1000000000000) (hd : 1 ≤ d) (hd2 : d ≤ 1000000) (h : partB (lowA (a * d + c * b) (b * d)) (lowB (a * d + c * b) (b * d))) :
    Calls Try.prog 19 #[.int .i64 a, .int .i64 b, .int .i64 c, .int .i64 d] w fun e w' => e = .returned (.tuple #[.int .i64 (lowA (a * d + c * b) (b * d)), .int .i64 (lowB (a * d + c * b) (b * d)), .bool true]) ∧ ∃ n, w' = w.drewN n := by
  obtain ⟨p1, p2, p3, p4, p5, p6⟩ := prods ha1 ha2 hb hb2 hc1 hc2 hd hd2
  obtain ⟨h1, h2, h3, h4⟩ := h
  skip
  go_enter Try.func19, Try.ntmps19
  go_wp2_with (first | (go_at_call 37; (with_reducible refine (isPart_yes a b _ ha1 ha2 hb hb2).mono ?_); rintro e w' ⟨rfl, rfl⟩) | (go_at_call 37; (with_reducible refine (isPart_yes c d _ hc1 hc2 hd hd2).mono ?_); rintro e w' ⟨rfl, rfl⟩) | (go_at_call 41; refine (reduced_any _ _ _ (by omega) (by omega) (by omega) (by omega)).mono ?_; rintro e w' ⟨rfl, n, rfl⟩) | (go_at_call 37; (with_reducible refine (isPart_yes _ _ _ h1 h2 h3 h4).mono ?_); rintro e w' ⟨rfl, rfl⟩))
  go_ret3
  exact ⟨rfl, _, rfl⟩
theorem iAdd_over (a b c d : Int) (w : World) (ha1 : -1000000000000 ≤ a) (ha2 : a ≤ 1000000000000) (hb : 1 ≤ b) (hb2 : b ≤ 1000000) (hc1 : -1000000000000 ≤ c) (hc2 : c ≤ 1000000000000) (hd : 1 ≤ d) (hd2 : d ≤ 1000000) (h : ¬ partB (lowA (a * d + c * b) (b * d)) (lowB (a * d + c * b) (b * d))) :
    Calls Try.prog 19 #[.int .i64 a, .int .i64 b, .int .i64 c, .int .i64 d] w fun e w' => e = .returned (.tuple #[.int .i64 0, .int .i64 0, .bool false]) ∧ ∃ n, w' = w.drewN n := by
  obtain ⟨p1, p2, p3, p4, p5, p6⟩ := prods ha1 ha2 hb hb2 hc1 hc2 hd hd2
  have H := Lib.hid h
  clear h
  go_enter Try.func19, Try.ntmps19
  go_wp2_with (first | (go_at_call 37; (with_reducible refine (isPart_yes a b _ ha1 ha2 hb hb2).mono ?_); rintro e w' ⟨rfl, rfl⟩) | (go_at_call 37; (with_reducible refine (isPart_yes c d _ hc1 hc2 hd hd2).mono ?_); rintro e w' ⟨rfl, rfl⟩) | (go_at_call 41; refine (reduced_any _ _ _ (by omega) (by omega) (by omega) (by omega)).mono ?_; rintro e w' ⟨rfl, n, rfl⟩) | (go_at_call 37; (with_reducible refine (isPart_no _ _ _ H.out).mono ?_); rintro e w' ⟨rfl, rfl⟩))
  go_ret3
  exact ⟨rfl, _, rfl⟩
theorem iAdd_no (a b c d : Int) (w : World) (h : ¬ partB a b ∨ (partB a b ∧ ¬ partB c d)) :
    Calls Try.prog 19 #[.int .i64 a, .int .i64 b, .int .i64 c, .int .i64 d] w fun e w' => e = .returned (.tuple #[.int .i64 0, .int .i64 0, .bool false]) ∧ ∃ n, w' = w.drewN n := by
  rcases h with h | ⟨⟨h1, h2, h3, h4⟩, h⟩
  all_goals
    have H := Lib.hid h
    clear h
    go_enter Try.func19, Try.ntmps19
    go_wp2_with (first | (go_at_call 37; (with_reducible refine (isPart_yes _ _ _ h1 h2 h3 h4).mono ?_); rintro e w' ⟨rfl, rfl⟩) | (go_at_call 37; (with_reducible refine (isPart_no _ _ _ H.out).mono ?_); rintro e w' ⟨rfl, rfl⟩))
    go_ret3
    exact ⟨rfl, 0, rfl⟩
theorem walkAddParts (a0 : Int) (a1 : Int) (a2 : Int) (a3 : Int) (w0 : (Lit.int .i64 a0).wf = true) (w1 : (Lit.int .i64 a1).wf = true) (w2 : (Lit.int .i64 a2).wf = true) (w3 : (Lit.int .i64 a3).wf = true) (w : World) :
    Calls Try.prog 6 #[.int .i64 a0, .int .i64 a1, .int .i64 a2, .int .i64 a3] w fun e w' => e = .returned (.bool true) ∧ Grown w w' := by
  clear w0 w1 w2 w3
  by_cases h : partB a0 a1 ∧ partB a2 a3
  · obtain ⟨⟨h1, h2, h3, h4⟩, ⟨k1, k2, k3, k4⟩⟩ := h
    by_cases hp : partB (lowA (a0 * a3 + a2 * a1) (a1 * a3)) (lowB (a0 * a3 + a2 * a1) (a1 * a3))
    · have H := Lib.hid hp
      clear hp
      go_enter Try.func6, Try.ntmps6
      go_wp2_with (first | (go_at_call 18; refine (sAdd_yes _ _ _ _ _ h1 h2 h3 h4 k1 k2 k3 k4 H.out).mono ?_; rintro e w' ⟨rfl, n, rfl⟩) | (go_at_call 19; refine (iAdd_yes _ _ _ _ _ h1 h2 h3 h4 k1 k2 k3 k4 H.out).mono ?_; rintro e w' ⟨rfl, n, rfl⟩))
      go_ret
      exact ⟨rfl, grown_drewN _ _⟩
    · have H := Lib.hid hp
      clear hp
      go_enter Try.func6, Try.ntmps6
      go_wp2_with (first | (go_at_call 18; refine (sAdd_over _ _ _ _ _ h1 h2 h3 h4 k1 k2 k3 k4 H.out).mono ?_; rintro e w' ⟨rfl, n, rfl⟩) | (go_at_call 19; refine (iAdd_over _ _ _ _ _ h1 h2 h3 h4 k1 k2 k3 k4 H.out).mono ?_; rintro e w' ⟨rfl, n, rfl⟩))
      go_ret
      exact ⟨rfl, grown_drewN _ _⟩
  · have H : RowKit.Hid (¬ partB a0 a1 ∨ (partB a0 a1 ∧ ¬ partB a2 a3)) := Lib.hid (by
      by_cases h' : partB a0 a1
      · exact .inr ⟨h', fun k => h ⟨h', k⟩⟩
      · exact .inl h')
    clear h
    go_enter Try.func6, Try.ntmps6
    go_wp2_with (first | (go_at_call 18; refine (sAdd_no _ _ _ _ _ H.out).mono ?_; rintro e w' ⟨rfl, n, rfl⟩) | (go_at_call 19; refine (iAdd_no _ _ _ _ _ H.out).mono ?_; rintro e w' ⟨rfl, n, rfl⟩))
    go_ret
    exact ⟨rfl, grown_drewN _ _⟩

theorem poGood_yes (a : Int) (w : World) (h1 : -1000000 ≤ a) (h2 : a ≤ 1000000) :
    Calls Try.prog 44 #[.int .i64 a] w fun e w' => e = .returned (.bool true) ∧ w = w' := by
  go_enter Try.func44, Try.ntmps44
  go_wp2
  go_ret
  exact ⟨rfl, rfl⟩
theorem poGood_no (a : Int) (w : World) (h : ¬ (-1000000 ≤ a ∧ a ≤ 1000000)) :
    Calls Try.prog 44 #[.int .i64 a] w fun e w' => e = .returned (.bool false) ∧ w = w' := by
  by_cases h1 : -1000000 ≤ a <;> by_cases h2 : a ≤ 1000000 <;> first | (exfalso; omega) | skip
  all_goals
    clear h
    go_enter Try.func44, Try.ntmps44
    go_wp2
    go_ret
    exact ⟨rfl, rfl⟩
theorem arePoints_yes (a : Int) (w : World) (h1 : -1000000 ≤ a) (h2 : a ≤ 1000000) :
    Calls Try.prog 48 #[.int .i64 a] w fun e w' => e = .returned (.bool true) ∧ w = w' := by
  go_enter Try.func48, Try.ntmps48
  go_wp2
  go_ret
  exact ⟨rfl, rfl⟩
theorem arePoints_no (a : Int) (w : World) (h : ¬ (-1000000 ≤ a ∧ a ≤ 1000000)) :
    Calls Try.prog 48 #[.int .i64 a] w fun e w' => e = .returned (.bool false) ∧ w = w' := by
  by_cases h1 : -1000000 ≤ a <;> by_cases h2 : a ≤ 1000000 <;> first | (exfalso; omega) | skip
  all_goals
    clear h
    go_enter Try.func48, Try.ntmps48
    go_wp2
    go_ret
    exact ⟨rfl, rfl⟩
theorem sPercent_yes (n p m : Int) (w : World) (h1 : -1000000 ≤ n) (h2 : n ≤ 1000000) (h3 : 0 ≤ p) (h4 : p ≤ 1000) (h5 : -1 ≤ m) (h6 : m ≤ 1) (g1 : -1000000 ≤ rnd (n * p) 100 m) (g2 : rnd (n * p) 100 m ≤ 1000000) :
    Calls Try.prog 26 #[.int .i64 n, .int .i64 p, .int .i64 m] w fun e w' => e = .returned (.tuple #[.int .i64 (rnd (n * p) 100 m), .bool true]) ∧ w = w' := by
  have pb := mul_bd n p 1000000 1000 h1 h2 h3 h4
  obtain ⟨pb1, pb2⟩ := pb
  go_enter Try.func26, Try.ntmps26
  go_wp2_with (first | (go_at_call 36; (with_reducible refine (poMode_any (n * p) 100 m _ (by omega) (by omega) (by omega) (by omega) h5 h6).mono ?_); rintro e w' ⟨rfl, rfl⟩) | (go_at_call 44; (with_reducible refine (poGood_yes n _ h1 h2).mono ?_); rintro e w' ⟨rfl, rfl⟩) | (go_at_call 44; (with_reducible refine (poGood_yes _ _ g1 g2).mono ?_); rintro e w' ⟨rfl, rfl⟩) | go_in)
  go_ret2
  exact ⟨rfl, rfl⟩
theorem sPercent_over (n p m : Int) (w : World) (h1 : -1000000 ≤ n) (h2 : n ≤ 1000000) (h3 : 0 ≤ p) (h4 : p ≤ 1000) (h5 : -1 ≤ m) (h6 : m ≤ 1) (h : ¬ (-1000000 ≤ rnd (n * p) 100 m ∧ rnd (n * p) 100 m ≤ 1000000)) :
    Calls Try.prog 26 #[.int .i64 n, .int .i64 p, .int .i64 m] w fun e w' => e = .returned (.tuple #[.int .i64 0, .bool false]) ∧ w = w' := by
  have pb := mul_bd n p 1000000 1000 h1 h2 h3 h4
  obtain ⟨pb1, pb2⟩ := pb
  have H := Lib.hid h
  clear h
  go_enter Try.func26, Try.ntmps26
  go_wp2_with (first | (go_at_call 36; (with_reducible refine (poMode_any (n * p) 100 m _ (by omega) (by omega) (by omega) (by omega) h5 h6).mono ?_); rintro e w' ⟨rfl, rfl⟩) | (go_at_call 44; (with_reducible refine (poGood_yes n _ h1 h2).mono ?_); rintro e w' ⟨rfl, rfl⟩) | (go_at_call 44; (with_reducible refine (poGood_no _ _ H.out).mono ?_); rintro e w' ⟨rfl, rfl⟩) | go_in)
  go_ret2
  exact ⟨rfl, rfl⟩
theorem sPercent_no (n p m : Int) (w : World) (h : ¬ (-1000000 ≤ n ∧ n ≤ 1000000 ∧ 0 ≤ p ∧ p ≤ 1000 ∧ -1 ≤ m ∧ m ≤ 1)) :
    Calls Try.prog 26 #[.int .i64 n, .int .i64 p, .int .i64 m] w fun e w' => e = .returned (.tuple #[.int .i64 0, .bool false]) ∧ w = w' := by
  by_cases h1 : -1000000 ≤ n <;> by_cases h2 : n ≤ 1000000 <;> by_cases h3 : 0 ≤ p <;> by_cases h4 : p ≤ 1000 <;> by_cases h5 : -1 ≤ m <;> by_cases h6 : m ≤ 1 <;> first | (exfalso; omega) | skip
  all_goals try have pb := mul_bd n p 1000000 1000 h1 h2 h3 h4
  all_goals
    clear h
    go_enter Try.func26, Try.ntmps26
    go_wp2_with (first | fail | go_in)
    go_ret2
    exact ⟨rfl, rfl⟩
theorem iPercent_yes (n p m : Int) (w : World) (h1 : -1000000 ≤ n) (h2 : n ≤ 1000000) (h3 : 0 ≤ p) (h4 : p ≤ 1000) (h5 : -1 ≤ m) (h6 : m ≤ 1) (g1 : -1000000 ≤ rnd (n * p) 100 m) (g2 : rnd (n * p) 100 m ≤ 1000000) :
    Calls Try.prog 27 #[.int .i64 n, .int .i64 p, .int .i64 m] w fun e w' => e = .returned (.tuple #[.int .i64 (rnd (n * p) 100 m), .bool true]) ∧ w = w' := by
  have pb := mul_bd n p 1000000 1000 h1 h2 h3 h4
  obtain ⟨pb1, pb2⟩ := pb
  go_enter Try.func27, Try.ntmps27
  go_wp2_with (first | (go_at_call 13; (with_reducible refine (implRound_yes (n * p) 100 m _ (by omega) (by omega) (by omega) (by omega) h5 h6).mono ?_); rintro e w' ⟨rfl, rfl⟩) | (go_at_call 48; (with_reducible refine (arePoints_yes n _ h1 h2).mono ?_); rintro e w' ⟨rfl, rfl⟩) | (go_at_call 48; (with_reducible refine (arePoints_yes _ _ g1 g2).mono ?_); rintro e w' ⟨rfl, rfl⟩) | go_in)
  go_ret2
  exact ⟨rfl, rfl⟩
theorem iPercent_over (n p m : Int) (w : World) (h1 : -1000000 ≤ n) (h2 : n ≤ 1000000) (h3 : 0 ≤ p) (h4 : p ≤ 1000) (h5 : -1 ≤ m) (h6 : m ≤ 1) (h : ¬ (-1000000 ≤ rnd (n * p) 100 m ∧ rnd (n * p) 100 m ≤ 1000000)) :
    Calls Try.prog 27 #[.int .i64 n, .int .i64 p, .int .i64 m] w fun e w' => e = .returned (.tuple #[.int .i64 0, .bool false]) ∧ w = w' := by
  have pb := mul_bd n p 1000000 1000 h1 h2 h3 h4
  obtain ⟨pb1, pb2⟩ := pb
  have H := Lib.hid h
  clear h
  go_enter Try.func27, Try.ntmps27
  go_wp2_with (first | (go_at_call 13; (with_reducible refine (implRound_yes (n * p) 100 m _ (by omega) (by omega) (by omega) (by omega) h5 h6).mono ?_); rintro e w' ⟨rfl, rfl⟩) | (go_at_call 48; (with_reducible refine (arePoints_yes n _ h1 h2).mono ?_); rintro e w' ⟨rfl, rfl⟩) | (go_at_call 48; (with_reducible refine (arePoints_no _ _ H.out).mono ?_); rintro e w' ⟨rfl, rfl⟩) | go_in)
  go_ret2
  exact ⟨rfl, rfl⟩
theorem iPercent_no (n p m : Int) (w : World) (h : ¬ (-1000000 ≤ n ∧ n ≤ 1000000 ∧ 0 ≤ p ∧ p ≤ 1000 ∧ -1 ≤ m ∧ m ≤ 1)) :
    Calls Try.prog 27 #[.int .i64 n, .int .i64 p, .int .i64 m] w fun e w' => e = .returned (.tuple #[.int .i64 0, .bool false]) ∧ w = w' := by
  by_cases h1 : -1000000 ≤ n <;> by_cases h2 : n ≤ 1000000 <;> by_cases h3 : 0 ≤ p <;> by_cases h4 : p ≤ 1000 <;> by_cases h5 : -1 ≤ m <;> by_cases h6 : m ≤ 1 <;> first | (exfalso; omega) | skip
  all_goals try have pb := mul_bd n p 1000000 1000 h1 h2 h3 h4
  all_goals
    clear h
    go_enter Try.func27, Try.ntmps27
    go_wp2_with (first | (go_at_call 13; (with_reducible refine (implRound_no (n * p) 100 m _ (by omega)).mono ?_); rintro e w' ⟨rfl, rfl⟩) | go_in)
    go_ret2
    exact ⟨rfl, rfl⟩
theorem walkPercentOf (a0 : Int) (a1 : Int) (a2 : Int) (w0 : (Lit.int .i64 a0).wf = true) (w1 : (Lit.int .i64 a1).wf = true) (w2 : (Lit.int .i64 a2).wf = true) (w : World) :
    Calls Try.prog 9 #[.int .i64 a0, .int .i64 a1, .int .i64 a2] w fun e w' => e = .returned (.bool true) ∧ Grown w w' := by
  clear w0 w1 w2
  by_cases h : -1000000 ≤ a0 ∧ a0 ≤ 1000000 ∧ 0 ≤ a1 ∧ a1 ≤ 1000 ∧ -1 ≤ a2 ∧ a2 ≤ 1
  · obtain ⟨h1, h2, h3, h4, h5, h6⟩ := h
    by_cases hp : -1000000 ≤ rnd (a0 * a1) 100 a2 ∧ rnd (a0 * a1) 100 a2 ≤ 1000000
    · obtain ⟨g1, g2⟩ := hp
      go_enter Try.func9, Try.ntmps9
      go_wp2_with (first | (go_at_call 26; refine (sPercent_yes _ _ _ _ h1 h2 h3 h4 h5 h6 g1 g2).mono ?_; rintro e w' ⟨rfl, rfl⟩) | (go_at_call 27; refine (iPercent_yes _ _ _ _ h1 h2 h3 h4 h5 h6 g1 g2).mono ?_; rintro e w' ⟨rfl, rfl⟩))
      go_ret
      exact ⟨rfl, Grown.refl _⟩
    · have H := Lib.hid hp
      clear hp
      go_enter Try.func9, Try.ntmps9
      go_wp2_with (first | (go_at_call 26; refine (sPercent_over _ _ _ _ h1 h2 h3 h4 h5 h6 H.out).mono ?_; rintro e w' ⟨rfl, rfl⟩) | (go_at_call 27; refine (iPercent_over _ _ _ _ h1 h2 h3 h4 h5 h6 H.out).mono ?_; rintro e w' ⟨rfl, rfl⟩))
      go_ret
      exact ⟨rfl, Grown.refl _⟩
  · have H := Lib.hid h
    clear h
    go_enter Try.func9, Try.ntmps9
    go_wp2_with (first | (go_at_call 26; refine (sPercent_no _ _ _ _ H.out).mono ?_; rintro e w' ⟨rfl, rfl⟩) | (go_at_call 27; refine (iPercent_no _ _ _ _ H.out).mono ?_; rintro e w' ⟨rfl, rfl⟩))
    go_ret
    exact ⟨rfl, Grown.refl _⟩
end Go.Proofs.Ytngbkflfobcgaaa
