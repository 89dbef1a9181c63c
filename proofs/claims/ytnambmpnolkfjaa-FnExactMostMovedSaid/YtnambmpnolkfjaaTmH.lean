/- WithoutMark and WithMark, in the program and in its model. -/
import Derived.Test.YtnambmpnolkfjaaTmF
import Derived.Test.YtnambmpnolkfjaaTmH0
import Derived.Deep.RegionHeld3
namespace Go.Proofs.Ytnambmpnolkfjaa.One
open Go.ChangeShapes Go.WideShapes Go.ChangeAt Go.RowKit Go.Lib Go.Proofs
set_option linter.unusedVariables false

structure WoOk (xs : List Int) (k : Int) : Prop where
  has : TmHas xs k
  two : 2 ≤ xs.length
structure WmOk (xs : List Int) (k v : Int) : Prop where
  has : TmHas xs k
  val : MkV v
theorem RowAt.put {w : World} {g : Nat} {xs : List Int} (h : RowAt w g xs) (k : Nat) (hk : k < xs.length) (v : Int) : RowAt (w.setCell ⟨g, k, none⟩ (.int .i64 v)) g (xs.set k v) := fun i hi => by
  rw [List.length_set] at hi
  obtain ⟨h1, h2⟩ := h i hi
  refine ⟨?_, by rw [World.frozen?_setCell]; exact h2⟩
  rw [set_ix _ _ _ _ hi]
  by_cases e : k = i
  · subst e
    rw [if_pos rfl]
    exact World.cell?_setCell_same _ _ _ h1
  · rw [if_neg e]
    exact (World.cell?_setCell_other _ _ _ _ (fun q => e (congrArg (·.off) q))).trans h1
theorem rowAt_own {w : World} {base g cap n : Nat} {xs : List Int} (h : w.ownsRow base 3 1 (.slice (some ⟨g, 0, none⟩) n cap) n (xs.map (Value.int .i64))) (hn : xs.length = n) : RowAt w g xs := fun i hi => by
  refine ⟨?_, h.frozenAt i⟩
  rw [h.cellAt i (by omega), List.getElem?_map, List.getElem?_eq_getElem hi, ix_get _ _ hi]
  rfl
theorem below_ad (w : World) (o : Obj) : Below w.heap.size w (w.alloc o).drew := ((Below.refl w.heap.size w).alloc (Nat.le_refl _) o).drew
theorem below_da (w : World) (o : Obj) : Below w.heap.size w (w.drew.alloc o) := (Below.refl w.heap.size w).drew.alloc (Nat.le_refl _) o
/-- A copy of a list in the program. -/
theorem clone_o (b o c : Nat) (xs : List Int) (w : World) (hr : Ints w w.heap.size (some ⟨b, o, none⟩) xs) (hp : 0 < xs.length) (hl : xs.length ≤ 1048576) :
    Calls Try.prog 67 #[.slice (some ⟨b, o, none⟩) xs.length c] w fun e w' => ∃ g cap, e = .returned (.slice (some ⟨g, 0, none⟩) xs.length cap) ∧ RowAt w' g xs ∧ w.heap.size ≤ g ∧ g < w'.heap.size ∧ Below w.heap.size w w' := by
  obtain ⟨b', o', e, hbl, hc⟩ := hr hp
  injection e with e
  injection e with e1 e2
  subst e1 e2
  refine (cloneL_any b o c xs w hc hl).mono ?_
  rintro e w' ⟨g, cap, rfl, ho, h1, h2, h3⟩
  refine ⟨g, cap, rfl, fun i hi => ?_, h1, h2, h3⟩
  have h0 := ho.int i hi
  rw [Nat.zero_add] at h0
  exact ⟨h0.c0, h0.f0⟩
theorem tmWith_any (A : Option Addr) (c : Nat) (xs : List Int) (k : Nat) (v : Int) (w : World) (hr : Ints w w.heap.size A xs) (hk : k < xs.length) (hl : xs.length ≤ 1048576) :
    Calls Try.prog 66 #[.slice A xs.length c, .int .i64 k, .int .i64 v] w fun e w' => ∃ g cap, e = .returned (.slice (some ⟨g, 0, none⟩) xs.length cap) ∧ RowAt w' g (xs.set k v) ∧ w.heap.size ≤ g ∧ g < w'.heap.size ∧ Below w.heap.size w w' := by
  have HR := Lib.hid hr
  have q1 : (0 : Int) ≤ (k : Int) := by omega
  have q2 : (k : Int) < (xs.length : Int) := by omega
  clear hr
  go_enter Try.func66, Try.ntmps66
  go_wp2_with fail
  refine (l1Own_o A _ c xs w HR.out rfl hl).mono ?_
  rintro e w1 ⟨v1, rfl, ho, hb⟩
  rcases Joins.ownsRow_forms ho with ⟨rfl, h0⟩ | ⟨g, cap, rfl⟩
  · omega
  have HRW := Lib.hid (rowAt_own ho rfl)
  have HLT := Lib.hid (ho.lt g rfl)
  have HB := Lib.hid hb
  have hck := (HRW.out k hk).1
  have hfk := (HRW.out k hk).2
  clear ho hb
  go_wp2
  go_ret
  exact ⟨g, cap, rfl, HRW.out.put k hk v, HLT.out.1, by simpa [World.setCell] using HLT.out.2, HB.out.setCell (p := ⟨g, k, none⟩) HLT.out.1 _⟩
theorem owned_row {w w' : World} {g : Nat} {xs : List Int} (h : RowAt w' g xs) (h1 : w.heap.size ≤ g) (h2 : g < w'.heap.size) : Owned w' w.heap.size w'.heap.size (some ⟨g, 0, none⟩) xs := ⟨Nat.le_refl _, fun _ => ⟨g, rfl, h1, h2, h⟩⟩
theorem iWithMark_yes (A : Option Addr) (c : Nat) (xs : List Int) (k v : Int) (w : World) (hr : Ints w w.heap.size A xs) (hl : xs.length ≤ 1048576) (h : WmOk xs k v) :
    Calls Try.prog 34 #[.slice A xs.length c, .int .i64 k, .int .i64 v] w (Lists w true (fun ys => ys = xs.set k.toNat v)) := by
  have HC := Lib.hid (hasMarkOf_any A c xs k w _ hr hl)
  have HR := Lib.hid hr
  clear hr
  have HM := Lib.hid (isMark_any v)
  rw [pB_yes h.has] at HC
  rw [pB_yes h.val] at HM
  have hp := h.has.ok.lo
  have hlo := h.has.lo
  have hhi := h.has.hi
  clear h
  obtain ⟨j, rfl⟩ : ∃ j : Nat, k = (j : Int) := ⟨k.toNat, by omega⟩
  have hj : j < xs.length := by omega
  rw [Int.toNat_natCast]
  obtain ⟨b, o, rfl, _, _⟩ := HR.out hp
  go_enter Try.func34, Try.ntmps34
  go_wp2_with (first | (go_at_call 62; refine HC.out.mono ?_; rintro e w2 ⟨rfl, hw⟩; obtain rfl := hw.symm; clear hw) | (go_at_call 51; refine (HM.out _).mono ?_; rintro e w3 ⟨rfl, rfl⟩) | (go_at_call 67; refine (clone_o b o c xs _ HR.out hp hl).mono ?_; rintro e w4 ⟨g, cap, rfl, hrw, hg1, hg2, hb⟩; have HB := Lib.hid hb; have HRW := Lib.hid hrw; have hck := (HRW.out j hj).1; have hfk := (HRW.out j hj).2; clear hb hrw))
  go_ret2
  exact ⟨some ⟨g, 0, none⟩, cap, xs.set j v, by rw [List.length_set]; rfl, rfl, owned_row (HRW.out.put j hj v) hg1 (by simpa [World.setCell] using hg2), HB.out.setCell (p := ⟨g, j, none⟩) hg1 _⟩
theorem iWithMark_no (A : Option Addr) (c : Nat) (xs : List Int) (k v : Int) (w : World) (hr : Ints w w.heap.size A xs) (hl : xs.length ≤ 1048576) (h : ¬ WmOk xs k v) :
    Calls Try.prog 34 #[.slice A xs.length c, .int .i64 k, .int .i64 v] w (Lists w false (· = [])) := by
  have HC := Lib.hid (hasMarkOf_any A c xs k w _ hr hl)
  have HR := Lib.hid hr
  clear hr
  have HM := Lib.hid (isMark_any v)
  by_cases h1 : TmHas xs k
  · rw [pB_yes h1] at HC
    rw [pB_no (fun q : MkV v => h ⟨h1, q⟩)] at HM
    clear h h1
    go_enter Try.func34, Try.ntmps34
    go_wp2_with (first | (go_at_call 62; refine HC.out.mono ?_; rintro e w2 ⟨rfl, hw⟩; obtain rfl := hw.symm; clear hw) | (go_at_call 51; refine (HM.out _).mono ?_; rintro e w3 ⟨rfl, rfl⟩))
    go_ret2
    exact ⟨none, 0, [], rfl, rfl, Owned.none_ _ _ _ _ (Nat.le_refl _), Below.refl _ _⟩
  · rw [pB_no h1] at HC
    clear h h1 HM
    go_enter Try.func34, Try.ntmps34
    go_wp2_with (go_at_call 62; refine HC.out.mono ?_; rintro e w2 ⟨rfl, hw⟩; obtain rfl := hw.symm; clear hw)
    go_ret2
    exact ⟨none, 0, [], rfl, rfl, Owned.none_ _ _ _ _ (Nat.le_refl _), Below.refl _ _⟩
set_option maxHeartbeats 1000000 in
set_option maxRecDepth 20000 in
theorem iWithoutMark_yes (A : Option Addr) (c : Nat) (xs : List Int) (k : Int) (w : World) (hc : c = xs.length) (hr : Ints w w.heap.size A xs) (hl : xs.length ≤ 1048576) (h : WoOk xs k) :
    Calls Try.prog 30 #[.slice A xs.length c, .int .i64 k] w (Lists w true (fun ys => ys = xs.eraseIdx k.toNat)) := by
  have HC := Lib.hid (hasMarkOf_any A c xs k w _ hr hl)
  have HR := Lib.hid hr
  clear hr
  rw [pB_yes h.has] at HC
  have hp := h.has.ok.lo
  have h9 := h.has.ok.hi
  have h2 := h.two
  have hlo := h.has.lo
  have hhi := h.has.hi
  clear h
  obtain ⟨j, rfl⟩ : ∃ j : Nat, k = (j : Int) := ⟨k.toNat, by omega⟩
  have hj : j < xs.length := by omega
  rw [Int.toNat_natCast]
  obtain ⟨b, o, rfl, _, _⟩ := HR.out hp
  obtain ⟨n, hn⟩ : ∃ n, n = xs.length := ⟨_, rfl⟩
  obtain rfl : n = c := hn.trans hc.symm
  clear hc
  rw [← hn]
  have HES := Lib.hid (List.eraseIdx_eq_take_drop_succ xs j)
  obtain ⟨d, hd⟩ : ∃ d, n = j + 1 + d := ⟨n - (j + 1), by omega⟩
  have HL1 := Lib.hid (show (xs.take j).length = j by rw [List.length_take]; omega)
  have HL2 := Lib.hid (show (xs.drop (j + 1)).length = d by rw [List.length_drop]; omega)
  have HEL := Lib.hid (show (xs.eraseIdx j).length = j + d by rw [List.length_eraseIdx_of_lt hj]; omega)
  have HD := Lib.hid hd
  have HNX := Lib.hid hn
  rw [← hn] at HC
  have q0 : (0 : Int) ≤ (j : Int) := by omega
  have q1 : (j : Int) ≤ (n : Int) := by omega
  have q2 : (0 : Int) ≤ (j : Int) + 1 := by omega
  have q3 : (j : Int) + 1 ≤ (n : Int) := by omega
  have q5 : ((j : Int) + 1).toNat = j + 1 := by omega
  have q7 : n - (j + 1) = d := by omega
  have q8 : IntKind.i64.wrap ((j : Int) + 1) = (j : Int) + 1 := IntWalk.i64_in _ (by omega)
  have q9 : ((n : Int) == 1) = false := by simp; omega
  have q10 : j + d ≤ 20 := by omega
  have q11 : (j : Int) ≤ (j : Int) + 1 := by omega
  have q12 : (j : Int) ≤ ((j + 1 : Nat) : Int) := by omega
  clear hd hn hlo hhi
  by_cases hcap : n = j + 1
  · have hd0 : d = 0 := by omega
    subst hd0 hcap
    go_enter Try.func30, Try.ntmps30
    go_wp2_with (first | (go_at_call 62; refine HC.out.mono ?_; rintro e w2 ⟨rfl, hw⟩; obtain rfl := hw.symm; clear hw))
    go_region_held3 (fun _ => True) (trivial) (first | (go_at_call 65; refine (concat2_any w.heap.size _ j 0 (some ⟨b, o, none⟩) (some ⟨b, o, none⟩) (xs.take j) (xs.drop (j + 1)) _ (by simp) (by simp) (by simp) HL1.out HL2.out (ints_take ((HR.out).next (by first | exact below_ad _ _ | exact below_da _ _)) j) (ints_none HL2.out) (by omega)).mono ?_; rintro e w4 ⟨v, rfl, ho, hb⟩; have HO := Lib.hid (Joins.ownsRow_le ho (by first | exact (below_ad _ _).size | exact (below_da _ _).size)); have HB := Lib.hid (show Below w.heap.size w w4 from Below_then (by first | exact below_ad _ _ | exact below_da _ _) hb); clear ho hb) | fail)
    have ho := HO.out
    rw [← HES.out] at ho
    have ho2 := ho
    rw [← HEL.out] at ho2
    obtain ⟨A', c', rfl, hown⟩ := owned_of_own ho2
    have HW := Lib.hid hown
    clear ho ho2 hown HO
    go_wp2
    go_ret2
    exact ⟨A', c', xs.eraseIdx j, rfl, rfl, HW.out, HB.out⟩
  · go_enter Try.func30, Try.ntmps30
    go_wp2_with (first | (go_at_call 62; refine HC.out.mono ?_; rintro e w2 ⟨rfl, hw⟩; obtain rfl := hw.symm; clear hw))
    go_region_held3 (fun _ => True) (trivial) (first | (go_at_call 65; refine (concat2_any w.heap.size _ j d (some ⟨b, o, none⟩) (some ⟨b, o + (j + 1), none⟩) (xs.take j) (xs.drop (j + 1)) _ (by simp) (by simp) (by simp) HL1.out HL2.out (ints_take ((HR.out).next (by first | exact below_ad _ _ | exact below_da _ _)) j) (ints_drop (HR.out.next (by first | exact below_ad _ _ | exact below_da _ _)) (j + 1)) (by omega)).mono ?_; rintro e w4 ⟨v, rfl, ho, hb⟩; have HO := Lib.hid (Joins.ownsRow_le ho (by first | exact (below_ad _ _).size | exact (below_da _ _).size)); have HB := Lib.hid (show Below w.heap.size w w4 from Below_then (by first | exact below_ad _ _ | exact below_da _ _) hb); clear ho hb) | fail)
    have ho := HO.out
    rw [← HES.out] at ho
    have ho2 := ho
    rw [← HEL.out] at ho2
    obtain ⟨A', c', rfl, hown⟩ := owned_of_own ho2
    have HW := Lib.hid hown
    clear ho ho2 hown HO
    go_wp2
    go_ret2
    exact ⟨A', c', xs.eraseIdx j, rfl, rfl, HW.out, HB.out⟩
theorem iWithoutMark_no (A : Option Addr) (c : Nat) (xs : List Int) (k : Int) (w : World) (hc : c = xs.length) (hr : Ints w w.heap.size A xs) (hl : xs.length ≤ 1048576) (h : ¬ WoOk xs k) :
    Calls Try.prog 30 #[.slice A xs.length c, .int .i64 k] w (Lists w false (· = [])) := by
  have HC := Lib.hid (hasMarkOf_any A c xs k w _ hr hl)
  have HR := Lib.hid hr
  clear hr
  clear hc
  by_cases h1 : TmHas xs k
  · rw [pB_yes h1] at HC
    have hl1 := h1.ok.lo
    have h2 : xs.length = 1 := by
      rcases Nat.lt_or_ge xs.length 2 with q | q
      · omega
      · exact absurd ⟨h1, q⟩ h
    have q9 : ((xs.length : Int) == 1) = true := by simp; omega
    clear h h1 h2
    go_enter Try.func30, Try.ntmps30
    go_wp2_with (go_at_call 62; refine HC.out.mono ?_; rintro e w2 ⟨rfl, hw⟩; obtain rfl := hw.symm; clear hw)
    go_ret2
    exact ⟨none, 0, [], rfl, rfl, Owned.none_ _ _ _ _ (Nat.le_refl _), Below.refl _ _⟩
  · rw [pB_no h1] at HC
    clear h h1
    go_enter Try.func30, Try.ntmps30
    go_wp2_with (go_at_call 62; refine HC.out.mono ?_; rintro e w2 ⟨rfl, hw⟩; obtain rfl := hw.symm; clear hw)
    go_ret2
    exact ⟨none, 0, [], rfl, rfl, Owned.none_ _ _ _ _ (Nat.le_refl _), Below.refl _ _⟩
theorem sWithMark_yes (A : Option Addr) (c : Nat) (xs : List Int) (k v : Int) (w : World) (hr : Ints w w.heap.size A xs) (hl : xs.length ≤ 1048576) (h : WmOk xs k v) :
    Calls Try.prog 33 #[.slice A xs.length c, .int .i64 k, .int .i64 v] w (Lists w true (fun ys => ys = xs.set k.toNat v)) := by
  have HC := Lib.hid (tmHas_any A c xs k w _ hr hl)
  have HR := Lib.hid hr
  clear hr
  have HM := Lib.hid (l1In_b v (-1000) 1000)
  rw [pB_yes h.has] at HC
  rw [pB_yes (show (-1000 : Int) ≤ v ∧ v ≤ 1000 from h.val)] at HM
  have hp := h.has.ok.lo
  have hlo := h.has.lo
  have hhi := h.has.hi
  clear h
  obtain ⟨j, rfl⟩ : ∃ j : Nat, k = (j : Int) := ⟨k.toNat, by omega⟩
  have hj : j < xs.length := by omega
  rw [Int.toNat_natCast]
  go_enter Try.func33, Try.ntmps33
  go_wp2_with (first | (go_at_call 60; refine HC.out.mono ?_; rintro e w2 ⟨rfl, hw⟩; obtain rfl := hw.symm; clear hw) | (go_at_call 56; refine (HM.out _).mono ?_; rintro e w3 ⟨rfl, rfl⟩) | (go_at_call 66; refine (tmWith_any A c xs j v _ HR.out hj hl).mono ?_; rintro e w4 ⟨g, cap, rfl, hrw, hg1, hg2, hb⟩; have HB := Lib.hid hb; have HRW := Lib.hid hrw; clear hb hrw))
  go_ret2
  exact ⟨some ⟨g, 0, none⟩, cap, xs.set j v, by rw [List.length_set]; rfl, rfl, owned_row HRW.out hg1 hg2, HB.out⟩
theorem sWithMark_no (A : Option Addr) (c : Nat) (xs : List Int) (k v : Int) (w : World) (hr : Ints w w.heap.size A xs) (hl : xs.length ≤ 1048576) (h : ¬ WmOk xs k v) :
    Calls Try.prog 33 #[.slice A xs.length c, .int .i64 k, .int .i64 v] w (Lists w false (· = [])) := by
  have HC := Lib.hid (tmHas_any A c xs k w _ hr hl)
  have HR := Lib.hid hr
  clear hr
  have HM := Lib.hid (l1In_b v (-1000) 1000)
  by_cases h1 : TmHas xs k
  · rw [pB_yes h1] at HC
    rw [pB_no (fun q : -1000 ≤ v ∧ v ≤ 1000 => h ⟨h1, q⟩)] at HM
    clear h h1
    go_enter Try.func33, Try.ntmps33
    go_wp2_with (first | (go_at_call 60; refine HC.out.mono ?_; rintro e w2 ⟨rfl, hw⟩; obtain rfl := hw.symm; clear hw) | (go_at_call 56; refine (HM.out _).mono ?_; rintro e w3 ⟨rfl, rfl⟩))
    go_ret2
    exact ⟨none, 0, [], rfl, rfl, Owned.none_ _ _ _ _ (Nat.le_refl _), Below.refl _ _⟩
  · rw [pB_no h1] at HC
    clear h h1 HM
    go_enter Try.func33, Try.ntmps33
    go_wp2_with (go_at_call 60; refine HC.out.mono ?_; rintro e w2 ⟨rfl, hw⟩; obtain rfl := hw.symm; clear hw)
    go_ret2
    exact ⟨none, 0, [], rfl, rfl, Owned.none_ _ _ _ _ (Nat.le_refl _), Below.refl _ _⟩
set_option maxHeartbeats 1000000 in
set_option maxRecDepth 20000 in
theorem sWithoutMark_yes (A : Option Addr) (c : Nat) (xs : List Int) (k : Int) (w : World) (hc : c = xs.length) (hr : Ints w w.heap.size A xs) (hl : xs.length ≤ 1048576) (h : WoOk xs k) :
    Calls Try.prog 29 #[.slice A xs.length c, .int .i64 k] w (Lists w true (fun ys => ys = xs.eraseIdx k.toNat)) := by
  have HC := Lib.hid (tmHas_any A c xs k w _ hr hl)
  have HR := Lib.hid hr
  clear hr
  rw [pB_yes h.has] at HC
  have hp := h.has.ok.lo
  have h9 := h.has.ok.hi
  have h2 := h.two
  have hlo := h.has.lo
  have hhi := h.has.hi
  clear h
  obtain ⟨j, rfl⟩ : ∃ j : Nat, k = (j : Int) := ⟨k.toNat, by omega⟩
  have hj : j < xs.length := by omega
  rw [Int.toNat_natCast]
  obtain ⟨i0, hi, hz0, hz1, hz2⟩ := info_parts Try.info3
  have HZ := Lib.hid (And.intro hi (And.intro hz0 (And.intro hz1 hz2)))
  clear hi hz0 hz1 hz2
  obtain ⟨b, o, rfl, _, _⟩ := HR.out hp
  obtain ⟨n, hn⟩ : ∃ n, n = xs.length := ⟨_, rfl⟩
  obtain rfl : n = c := hn.trans hc.symm
  clear hc
  rw [← hn]
  have HES := Lib.hid (List.eraseIdx_eq_take_drop_succ xs j)
  obtain ⟨d, hd⟩ : ∃ d, n = j + 1 + d := ⟨n - (j + 1), by omega⟩
  have HL1 := Lib.hid (show (xs.take j).length = j by rw [List.length_take]; omega)
  have HL2 := Lib.hid (show (xs.drop (j + 1)).length = d by rw [List.length_drop]; omega)
  have HEL := Lib.hid (show (xs.eraseIdx j).length = j + d by rw [List.length_eraseIdx_of_lt hj]; omega)
  have HD := Lib.hid hd
  have HNX := Lib.hid hn
  rw [← hn] at HC
  have q0 : (0 : Int) ≤ (j : Int) := by omega
  have q1 : (j : Int) ≤ (n : Int) := by omega
  have q2 : (0 : Int) ≤ (j : Int) + 1 := by omega
  have q3 : (j : Int) + 1 ≤ (n : Int) := by omega
  have q5 : ((j : Int) + 1).toNat = j + 1 := by omega
  have q7 : n - (j + 1) = d := by omega
  have q8 : IntKind.i64.wrap ((j : Int) + 1) = (j : Int) + 1 := IntWalk.i64_in _ (by omega)
  have q9 : ((n : Int) == 1) = false := by simp; omega
  have q10 : j + d ≤ 20 := by omega
  have q11 : (j : Int) ≤ (j : Int) + 1 := by omega
  have q12 : (j : Int) ≤ ((j + 1 : Nat) : Int) := by omega
  clear hd hn hlo hhi
  by_cases hcap : n = j + 1
  · have hd0 : d = 0 := by omega
    subst hd0 hcap
    go_enter Try.func29, Try.ntmps29
    go_wp2_with (first | (go_at_call 60; refine HC.out.mono ?_; rintro e w2 ⟨rfl, hw⟩; obtain rfl := hw.symm; clear hw))
    go_region_held3 (fun _ => True) (trivial) (first | (go_at_call 64; refine (l1Own_o (some ⟨b, o, none⟩) j _ (xs.take j) _ (ints_take (HR.out.next (by go_grown; all_goals omega)) j) HL1.out (by omega)).mono ?_; rintro e w4 ⟨v, rfl, ho, hb⟩; have HO1 := Lib.hid ho; have HB1 := Lib.hid (show Below w.heap.size w w4 from Below_then (by go_grown; all_goals omega) hb); clear ho hb) | (refine step_append_src _ (by rfl) (.tmp 18) (.tmp 22) 22 (by rfl) w.heap.size 3 i0 (.int .i64 0) 8 Try.underlying22 HZ.out.1 HZ.out.2.1 HZ.out.2.2.1 HZ.out.2.2.2 rfl _ j _ (by rfl) HO1.out (some ⟨b, o, none⟩) 0 _ ((xs.drop (j + 1)).map (Value.int .i64)) (by rfl) (by rw [List.length_map]; exact HL2.out) (ints_srcm (ints_none HL2.out) HB1.out HL2.out) (ints_oneCell _ _) (by unfold maxLen; omega) (by omega) HB1.out.size ?_; intro v2 w5 hown hgrow hat; have HB := Lib.hid (show Below w.heap.size w w5 from Below.grown HB1.out hgrow HB1.out.size (fun m e => (HO1.out.lt m e).1)); have HO := Lib.hid (show w5.ownsRow w.heap.size 3 1 v2 (j + 0) ((xs.take j ++ xs.drop (j + 1)).map (Value.int .i64)) from by rw [List.map_append]; exact hown); clear hown hgrow hat) | fail)
    have ho := HO.out
    rw [← HES.out] at ho
    have ho2 := ho
    rw [← HEL.out] at ho2
    obtain ⟨A', c', rfl, hown⟩ := owned_of_own ho2
    have HW := Lib.hid hown
    clear ho ho2 hown HO HO1
    go_wp2
    go_ret2
    exact ⟨A', c', xs.eraseIdx j, rfl, rfl, HW.out, HB.out⟩
  · go_enter Try.func29, Try.ntmps29
    go_wp2_with (first | (go_at_call 60; refine HC.out.mono ?_; rintro e w2 ⟨rfl, hw⟩; obtain rfl := hw.symm; clear hw))
    go_region_held3 (fun _ => True) (trivial) (first | (go_at_call 64; refine (l1Own_o (some ⟨b, o, none⟩) j _ (xs.take j) _ (ints_take (HR.out.next (by go_grown; all_goals omega)) j) HL1.out (by omega)).mono ?_; rintro e w4 ⟨v, rfl, ho, hb⟩; have HO1 := Lib.hid ho; have HB1 := Lib.hid (show Below w.heap.size w w4 from Below_then (by go_grown; all_goals omega) hb); clear ho hb) | (refine step_append_src _ (by rfl) (.tmp 18) (.tmp 22) 22 (by rfl) w.heap.size 3 i0 (.int .i64 0) 8 Try.underlying22 HZ.out.1 HZ.out.2.1 HZ.out.2.2.1 HZ.out.2.2.2 rfl _ j _ (by rfl) HO1.out (some ⟨b, o + (j + 1), none⟩) d _ ((xs.drop (j + 1)).map (Value.int .i64)) (by rfl) (by rw [List.length_map]; exact HL2.out) (ints_srcm (ints_drop (HR.out) (j + 1)) HB1.out HL2.out) (ints_oneCell _ _) (by unfold maxLen; omega) (by omega) HB1.out.size ?_; intro v2 w5 hown hgrow hat; have HB := Lib.hid (show Below w.heap.size w w5 from Below.grown HB1.out hgrow HB1.out.size (fun m e => (HO1.out.lt m e).1)); have HO := Lib.hid (show w5.ownsRow w.heap.size 3 1 v2 (j + d) ((xs.take j ++ xs.drop (j + 1)).map (Value.int .i64)) from by rw [List.map_append]; exact hown); clear hown hgrow hat) | fail)
    have ho := HO.out
    rw [← HES.out] at ho
    have ho2 := ho
    rw [← HEL.out] at ho2
    obtain ⟨A', c', rfl, hown⟩ := owned_of_own ho2
    have HW := Lib.hid hown
    clear ho ho2 hown HO HO1
    go_wp2
    go_ret2
    exact ⟨A', c', xs.eraseIdx j, rfl, rfl, HW.out, HB.out⟩
theorem sWithoutMark_no (A : Option Addr) (c : Nat) (xs : List Int) (k : Int) (w : World) (hc : c = xs.length) (hr : Ints w w.heap.size A xs) (hl : xs.length ≤ 1048576) (h : ¬ WoOk xs k) :
    Calls Try.prog 29 #[.slice A xs.length c, .int .i64 k] w (Lists w false (· = [])) := by
  have HC := Lib.hid (tmHas_any A c xs k w _ hr hl)
  have HR := Lib.hid hr
  clear hr
  clear hc
  by_cases h1 : TmHas xs k
  · rw [pB_yes h1] at HC
    have hl1 := h1.ok.lo
    have h2 : xs.length = 1 := by
      rcases Nat.lt_or_ge xs.length 2 with q | q
      · omega
      · exact absurd ⟨h1, q⟩ h
    have q9 : ((xs.length : Int) == 1) = true := by simp; omega
    clear h h1 h2
    go_enter Try.func29, Try.ntmps29
    go_wp2_with (go_at_call 60; refine HC.out.mono ?_; rintro e w2 ⟨rfl, hw⟩; obtain rfl := hw.symm; clear hw)
    go_ret2
    exact ⟨none, 0, [], rfl, rfl, Owned.none_ _ _ _ _ (Nat.le_refl _), Below.refl _ _⟩
  · rw [pB_no h1] at HC
    clear h h1
    go_enter Try.func29, Try.ntmps29
    go_wp2_with (go_at_call 60; refine HC.out.mono ?_; rintro e w2 ⟨rfl, hw⟩; obtain rfl := hw.symm; clear hw)
    go_ret2
    exact ⟨none, 0, [], rfl, rfl, Owned.none_ _ _ _ _ (Nat.le_refl _), Below.refl _ _⟩
end Go.Proofs.Ytnambmpnolkfjaa.One
