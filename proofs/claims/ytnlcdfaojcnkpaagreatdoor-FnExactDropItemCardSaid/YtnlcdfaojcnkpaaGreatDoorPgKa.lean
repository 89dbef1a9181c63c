/- A list without one item, and with one more, in the program. -/
import Derived.Test.YtnlcdfaojcnkpaaGreatDoorPgK
namespace Go.Proofs.YtnlcdfaojcnkpaaGreatDoor
open Go.ChangeShapes Go.WideShapes Go.ChangeAt Go.RowKit Go.PlainAid
set_option linter.unusedVariables false

theorem ims_take {w : World} {B : Nat} {A : Option Addr} {xs : List Im} (h : Ims w B A xs) (k : Nat) : Ims w B A (xs.take k) := by
  refine ⟨fun hp => ?_, fun i hi => ?_⟩
  · rw [List.length_take] at hp
    obtain ⟨b, o, h1, h2, h3⟩ := h.out (by omega)
    refine ⟨b, o, h1, h2, fun i hi => ?_⟩
    rw [List.length_take] at hi
    rw [it_take _ _ _ (by omega)]
    exact h3 i (by omega)
  · rw [List.length_take] at hi
    rw [it_take _ _ _ (by omega)]
    exact h.each i (by omega)
theorem ims_drop {w : World} {B b o : Nat} {xs : List Im} (h : Ims w B (some ⟨b, o, none⟩) xs) (k : Nat) : Ims w B (some ⟨b, o + k * 3, none⟩) (xs.drop k) := by
  refine ⟨fun hp => ?_, fun i hi => ?_⟩
  · rw [List.length_drop] at hp
    obtain ⟨b', o', h1, h2, h3⟩ := h.out (by omega)
    cases h1
    refine ⟨b, o + k * 3, rfl, h2, fun i hi => ?_⟩
    rw [List.length_drop] at hi
    rw [it_drop]
    have := h3 (k + i) (by omega)
    rw [show o + k * 3 + i * Flat.sz Im = o + (k + i) * Flat.sz Im by show o + k * 3 + i * 3 = o + (k + i) * 3; omega]
    exact this
  · rw [List.length_drop] at hi
    rw [it_drop]
    exact h.each (k + i) (by omega)
theorem ims_none {w : World} {B : Nat} {A : Option Addr} {xs : List Im} (h : xs.length = 0) : Ims w B A xs := ⟨fun hp => absurd hp (by omega), fun i hi => absurd hi (by omega)⟩
/-- Concat of two parts, and of three. -/
theorem concat2 (g c : Nat) (P1 P2 : Option Addr) (n1 n2 : Nat) (xs1 xs2 : List Im) (w : World) (hg : g < w.heap.size) (h1 : ∃ c1, w.cell? ⟨g, 0, none⟩ = some (.slice P1 n1 c1)) (h2 : ∃ c2, w.cell? ⟨g, 1, none⟩ = some (.slice P2 n2 c2)) (l1 : xs1.length = n1) (l2 : xs2.length = n2) (i1 : Ims w w.heap.size P1 xs1) (i2 : Ims w w.heap.size P2 xs2) (ht : n1 + n2 ≤ 15) :
    Calls Tryz.prog 74 #[.slice (some ⟨g, 0, none⟩) 2 c] w fun e w' => (∃ R d, e = .returned (.slice R (n1 + n2) d) ∧ RowOk R (n1 + n2) d ∧ Ims w' w'.heap.size R (xs1 ++ xs2)) ∧ Below w.heap.size w w' := by
  obtain ⟨c1, h1⟩ := h1
  obtain ⟨c2, h2⟩ := h2
  subst l1 l2
  have hps : catTo [⟨P1, c1, xs1⟩, ⟨P2, c2, xs2⟩] 2 = xs1 ++ xs2 := rfl
  have := concat_any (some ⟨g, 0, none⟩) c [⟨P1, c1, xs1⟩, ⟨P2, c2, xs2⟩] w (fun _ => ⟨g, 0, rfl, hg, fun i hi j v hv => by
    have hi2 : i < 2 := hi
    match j, hv with
    | 0, hv =>
      obtain rfl := Option.some.inj hv
      rcases (show i = 0 ∨ i = 1 by omega) with rfl | rfl
      · exact h1
      · exact h2⟩) (fun i hi => by
    have hi2 : i < 2 := hi
    rcases (show i = 0 ∨ i = 1 by omega) with rfl | rfl
    · exact i1
    · exact i2) (by simp) (by simp) (by show (catTo [⟨P1, c1, xs1⟩, ⟨P2, c2, xs2⟩] 2).length ≤ 15; rw [hps, List.length_append]; exact ht)
  rw [show (catTo [⟨P1, c1, xs1⟩, ⟨P2, c2, xs2⟩] [(⟨P1, c1, xs1⟩ : Sl), ⟨P2, c2, xs2⟩].length) = xs1 ++ xs2 from hps, List.length_append] at this
  exact this
theorem concat3 (g c : Nat) (P1 P2 P3 : Option Addr) (n1 n2 n3 : Nat) (xs1 xs2 xs3 : List Im) (w : World) (hg : g < w.heap.size) (h1 : ∃ c1, w.cell? ⟨g, 0, none⟩ = some (.slice P1 n1 c1)) (h2 : ∃ c2, w.cell? ⟨g, 1, none⟩ = some (.slice P2 n2 c2)) (h3 : ∃ c3, w.cell? ⟨g, 2, none⟩ = some (.slice P3 n3 c3)) (l1 : xs1.length = n1) (l2 : xs2.length = n2) (l3 : xs3.length = n3) (i1 : Ims w w.heap.size P1 xs1) (i2 : Ims w w.heap.size P2 xs2) (i3 : Ims w w.heap.size P3 xs3) (ht : n1 + n2 + n3 ≤ 15) :
    Calls Tryz.prog 74 #[.slice (some ⟨g, 0, none⟩) 3 c] w fun e w' => (∃ R d, e = .returned (.slice R (n1 + n2 + n3) d) ∧ RowOk R (n1 + n2 + n3) d ∧ Ims w' w'.heap.size R (xs1 ++ xs2 ++ xs3)) ∧ Below w.heap.size w w' := by
  obtain ⟨c1, h1⟩ := h1
  obtain ⟨c2, h2⟩ := h2
  obtain ⟨c3, h3⟩ := h3
  subst l1 l2 l3
  have hps : catTo [⟨P1, c1, xs1⟩, ⟨P2, c2, xs2⟩, ⟨P3, c3, xs3⟩] 3 = xs1 ++ xs2 ++ xs3 := rfl
  have := concat_any (some ⟨g, 0, none⟩) c [⟨P1, c1, xs1⟩, ⟨P2, c2, xs2⟩, ⟨P3, c3, xs3⟩] w (fun _ => ⟨g, 0, rfl, hg, fun i hi j v hv => by
    have hi2 : i < 3 := hi
    match j, hv with
    | 0, hv =>
      obtain rfl := Option.some.inj hv
      rcases (show i = 0 ∨ i = 1 ∨ i = 2 by omega) with rfl | rfl | rfl
      · exact h1
      · exact h2
      · exact h3⟩) (fun i hi => by
    have hi2 : i < 3 := hi
    rcases (show i = 0 ∨ i = 1 ∨ i = 2 by omega) with rfl | rfl | rfl
    · exact i1
    · exact i2
    · exact i3) (by simp) (by simp) (by show (catTo [⟨P1, c1, xs1⟩, ⟨P2, c2, xs2⟩, ⟨P3, c3, xs3⟩] 3).length ≤ 15; rw [hps, List.length_append, List.length_append]; exact ht)
  rw [show (catTo [⟨P1, c1, xs1⟩, ⟨P2, c2, xs2⟩, ⟨P3, c3, xs3⟩] [(⟨P1, c1, xs1⟩ : Sl), ⟨P2, c2, xs2⟩, ⟨P3, c3, xs3⟩].length) = xs1 ++ xs2 ++ xs3 from hps, List.length_append, List.length_append] at this
  exact this
/-- A list of one item, in a block of its own. -/
theorem one_ims {w : World} {g : Nat} {y : Im} (h0 : w.cell? ⟨g, 0, none⟩ = some (.slice y.A y.ns.length y.c)) (h1 : w.cell? ⟨g, 1, none⟩ = some (.slice y.L y.ms.length y.d)) (h2 : w.cell? ⟨g, 2, none⟩ = some (.bool y.late)) (hg : g < w.heap.size) (hy : ImIn w w.heap.size y) : Ims w w.heap.size (some ⟨g, 0, none⟩) [y] :=
  ⟨fun _ => ⟨g, 0, rfl, hg, fun i hi j v hv => by
    obtain rfl : i = 0 := by simpa using hi
    match j, hv with
    | 0, hv => obtain rfl := Option.some.inj hv; exact h0
    | 1, hv => obtain rfl := Option.some.inj hv; exact h1
    | 2, hv => obtain rfl := Option.some.inj hv; exact h2⟩, fun i hi => by
    obtain rfl : i = 0 := by simpa using hi
    exact hy⟩

set_option maxRecDepth 20000 in
set_option maxHeartbeats 2000000 in
theorem withoutItem_any (b o c : Nat) (xs : List Im) (k : Nat) (w : World) (hr : Ims w w.heap.size (some ⟨b, o, none⟩) xs) (hk : k < xs.length) (h14 : xs.length ≤ 15) (hc : xs.length ≤ c ∧ c ≤ 9223372036854775807) :
    Calls Tryz.prog 54 #[.slice (some ⟨b, o, none⟩) xs.length c, .int .i64 k] w fun e w' => (∃ R d, e = .returned (.slice R (xs.eraseIdx k).length d) ∧ RowOk R (xs.eraseIdx k).length d ∧ Ims w' w'.heap.size R (xs.eraseIdx k)) ∧ Below w.heap.size w w' := by
  obtain ⟨d', hd'⟩ : ∃ d', xs.length = k + 1 + d' := ⟨xs.length - (k + 1), by omega⟩
  have HD := Lib.hid hd'
  have HC := Lib.hid hc
  have HR := Lib.hid hr
  have HL1 := Lib.hid (show (xs.take k).length = k by rw [List.length_take]; omega)
  have HL2 := Lib.hid (show (xs.drop (k + 1)).length = d' by rw [List.length_drop]; omega)
  have HES := Lib.hid (List.eraseIdx_eq_take_drop_succ xs k)
  have HEL := Lib.hid (show (xs.eraseIdx k).length = k + d' by rw [erase_len xs k hk]; omega)
  have q0 : (0 : Int) ≤ (k : Int) := by omega
  have q1 : (k : Int) ≤ (c : Int) := by omega
  have q2 : (0 : Int) ≤ (k : Int) + 1 := by omega
  have q3 : (k : Int) + 1 ≤ (xs.length : Int) := by omega
  have q4 : (xs.length : Int) ≤ (c : Int) := by omega
  have q5 : ((k : Int) + 1).toNat = k + 1 := by omega
  have q7 : xs.length - (k + 1) = d' := by omega
  have q8 : IntKind.i64.wrap ((k : Int) + 1) = (k : Int) + 1 := IntWalk.i64_in _ (by omega)
  have q10 : (k : Int) ≤ (k : Int) + 1 := by omega
  have q11 : (k : Int) ≤ ((k + 1 : Nat) : Int) := by omega
  have hi24 : k + d' ≤ 15 := by omega
  clear hr hd'
  by_cases hcap : c = k + 1
  · have HD0 := Lib.hid (show (xs.drop (k + 1)).length = 0 by rw [HL2.out]; have := HD.out; have := HC.out; omega)
    subst hcap
    go_enter Tryz.func54, Tryz.ntmps54
    go_wp2_with fail
    go_region_held3 (fun _ => True) (trivial)
      (first
        | (go_at_call 74; refine (concat2 w.heap.size _ (some ⟨b, o, none⟩) (some ⟨b, o, none⟩) k d' (xs.take k) (xs.drop (k + 1)) _ (by simp) (by simp) (by simp) HL1.out HL2.out (ims_take (HR.out.next (by first | exact below_adn _ _ | exact below_adn0 _ _)) k) (ims_none HD0.out) (by omega)).mono ?_; rintro e w2 ⟨⟨R, dd, rfl, hdd, hi⟩, hb⟩; have HB2 := Lib.hid (below_next (by first | exact below_adn _ _ | exact below_adn0 _ _) hb); have HDD := Lib.hid hdd; have HI := Lib.hid hi; clear hdd hi hb)
        | fail)
    rw [← HES.out] at HI
    go_wp2
    go_returns
    exact ⟨⟨R, dd, by rw [HEL.out]; rfl, by rw [HEL.out]; exact HDD.out, HI.out⟩, HB2.out⟩
  · go_enter Tryz.func54, Tryz.ntmps54
    go_wp2_with fail
    go_region_held3 (fun _ => True) (trivial)
      (first
        | (go_at_call 74; refine (concat2 w.heap.size _ (some ⟨b, o, none⟩) (some ⟨b, o + (k + 1) * 3, none⟩) k d' (xs.take k) (xs.drop (k + 1)) _ (by simp) (by simp) (by simp) HL1.out HL2.out (ims_take (HR.out.next (by first | exact below_adn _ _ | exact below_adn0 _ _)) k) (ims_drop (HR.out.next (by first | exact below_adn _ _ | exact below_adn0 _ _)) (k + 1)) (by omega)).mono ?_; rintro e w2 ⟨⟨R, dd, rfl, hdd, hi⟩, hb⟩; have HB2 := Lib.hid (below_next (by first | exact below_adn _ _ | exact below_adn0 _ _) hb); have HDD := Lib.hid hdd; have HI := Lib.hid hi; clear hdd hi hb)
        | fail)
    rw [← HES.out] at HI
    go_wp2
    go_returns
    exact ⟨⟨R, dd, by rw [HEL.out]; rfl, by rw [HEL.out]; exact HDD.out, HI.out⟩, HB2.out⟩

set_option maxRecDepth 20000 in
set_option maxHeartbeats 4000000 in
theorem withItem_some (b o c : Nat) (xs : List Im) (k : Nat) (y : Im) (w : World) (hr : Ims w w.heap.size (some ⟨b, o, none⟩) xs) (hy : ImIn w w.heap.size y) (hk : k ≤ xs.length) (h14 : xs.length ≤ 14) (hc : xs.length ≤ c ∧ c ≤ 9223372036854775807) :
    Calls Tryz.prog 44 #[.slice (some ⟨b, o, none⟩) xs.length c, .int .i64 k, y.val] w fun e w' => (∃ R d, e = .returned (.slice R (ins xs k y).length d) ∧ RowOk R (ins xs k y).length d ∧ Ims w' w'.heap.size R (ins xs k y)) ∧ Below w.heap.size w w' := by
  obtain ⟨W, hW, hI⟩ := boxedI 41 w y
  have HB := Lib.hid hI.below
  have HR := Lib.hid (hr.next hI.below)
  have HY := Lib.hid (hy.next hI.below)
  have HX := Lib.hid hI.box
  have HXd := Lib.hid (hI.box.next (below_drew W))
  obtain ⟨d', hd'⟩ : ∃ d', xs.length = k + d' := ⟨xs.length - k, by omega⟩
  have HD := Lib.hid hd'
  have HC := Lib.hid hc
  have HL1 := Lib.hid (show (xs.take k).length = k by rw [List.length_take]; omega)
  have HL2 := Lib.hid (show (xs.drop k).length = d' by rw [List.length_drop]; omega)
  have HES := Lib.hid (show xs.take k ++ [y] ++ xs.drop k = ins xs k y by unfold ins; simp)
  have HEL := Lib.hid (show (ins xs k y).length = k + 1 + d' by rw [ins_len xs k y hk]; omega)
  have HNW := Lib.hid (below_adn W)
  have HNX := Lib.hid (fun o1 o2 => below_next (below_alloc W o1) (below_adn (W.alloc o1) o2))
  have q0 : (0 : Int) ≤ (k : Int) := by omega
  have q1 : (k : Int) ≤ (c : Int) := by omega
  have q3 : (k : Int) ≤ (xs.length : Int) := by omega
  have q4 : (xs.length : Int) ≤ (c : Int) := by omega
  have q7 : xs.length - k = d' := by omega
  have hi24 : k + 1 + d' ≤ 15 := by omega
  clear hr hy hd' hI
  unfold boxIm at hW
  unfold Im.val
  by_cases hcap : k = c
  · have HD0 := Lib.hid (show (xs.drop k).length = 0 by rw [HL2.out]; have := HD.out; have := HC.out; omega)
    subst hcap
    go_enter Tryz.func44, Tryz.ntmps44
    go_wp2_with fail
    rw [← hW]
    clear hW
    go_region_held3 (fun w' => w'.cell? ⟨w.heap.size, 0, none⟩ = some (.slice y.A y.ns.length y.c) ∧ w'.cell? ⟨w.heap.size, 1, none⟩ = some (.slice y.L y.ms.length y.d) ∧ w'.cell? ⟨w.heap.size, 2, none⟩ = some (.bool y.late))
      (first | (with_reducible exact imCells HXd.out) | (exact imCells (HX.out.next (HNW.out _))) | (exact imCells (HX.out.next (HNX.out _ _))) | (with_reducible exact imCells (HX.out.next HB2.out)) | fail)
      (first
        | (go_at_call 74; refine (concat3 (W.heap.size + 1) _ (some ⟨b, o, none⟩) (some ⟨W.heap.size, 0, none⟩) (some ⟨b, o, none⟩) k 1 d' (xs.take k) [y] (xs.drop k) _ (by simp) (by simp) (by simp) (by simp) HL1.out rfl HL2.out (ims_take (HR.out.next (HNX.out _ _)) k) (one_ims (by simp) (by simp) (by simp) (by simp; omega) (HY.out.next (HNX.out _ _))) (ims_none HD0.out) (by omega)).mono ?_; rintro e w2 ⟨⟨R, dd, rfl, hdd, hi⟩, hb⟩; have HB2 := Lib.hid (below_next (HNX.out _ _) hb); have HDD := Lib.hid hdd; have HI := Lib.hid hi; clear hdd hi hb)
        | fail)
    rw [HES.out] at HI
    go_wp2
    go_returns
    exact ⟨⟨R, dd, by rw [HEL.out]; rfl, by rw [HEL.out]; exact HDD.out, HI.out⟩, below_next HB.out HB2.out⟩
  · have hne : ¬ c = k := fun e => hcap e.symm
    go_enter Tryz.func44, Tryz.ntmps44
    go_wp2_with fail
    rw [← hW]
    clear hW
    go_region_held3 (fun w' => w'.cell? ⟨w.heap.size, 0, none⟩ = some (.slice y.A y.ns.length y.c) ∧ w'.cell? ⟨w.heap.size, 1, none⟩ = some (.slice y.L y.ms.length y.d) ∧ w'.cell? ⟨w.heap.size, 2, none⟩ = some (.bool y.late))
      (first | (with_reducible exact imCells HXd.out) | (exact imCells (HX.out.next (HNW.out _))) | (exact imCells (HX.out.next (HNX.out _ _))) | (with_reducible exact imCells (HX.out.next HB2.out)) | fail)
      (first
        | (go_at_call 74; refine (concat3 (W.heap.size + 1) _ (some ⟨b, o, none⟩) (some ⟨W.heap.size, 0, none⟩) (some ⟨b, o + k * 3, none⟩) k 1 d' (xs.take k) [y] (xs.drop k) _ (by simp) (by simp) (by simp) (by simp) HL1.out rfl HL2.out (ims_take (HR.out.next (HNX.out _ _)) k) (one_ims (by simp) (by simp) (by simp) (by simp; omega) (HY.out.next (HNX.out _ _))) (ims_drop (HR.out.next (HNX.out _ _)) k) (by omega)).mono ?_; rintro e w2 ⟨⟨R, dd, rfl, hdd, hi⟩, hb⟩; have HB2 := Lib.hid (below_next (HNX.out _ _) hb); have HDD := Lib.hid hdd; have HI := Lib.hid hi; clear hdd hi hb)
        | fail)
    rw [HES.out] at HI
    go_wp2
    go_returns
    exact ⟨⟨R, dd, by rw [HEL.out]; rfl, by rw [HEL.out]; exact HDD.out, HI.out⟩, below_next HB.out HB2.out⟩
set_option maxRecDepth 20000 in
set_option maxHeartbeats 4000000 in
theorem withItem_none (y : Im) (w : World) (hy : ImIn w w.heap.size y) :
    Calls Tryz.prog 44 #[.slice none 0 0, .int .i64 0, y.val] w fun e w' => (∃ R d, e = .returned (.slice R [y].length d) ∧ RowOk R [y].length d ∧ Ims w' w'.heap.size R [y]) ∧ Below w.heap.size w w' := by
  obtain ⟨W, hW, hI⟩ := boxedI 41 w y
  have HB := Lib.hid hI.below
  have HY := Lib.hid (hy.next hI.below)
  have HX := Lib.hid hI.box
  have HXd := Lib.hid (hI.box.next (below_drew W))
  have HNW := Lib.hid (below_adn W)
  have HNX := Lib.hid (fun o1 o2 => below_next (below_alloc W o1) (below_adn (W.alloc o1) o2))
  clear hy hI
  unfold boxIm at hW
  unfold Im.val
  · go_enter Tryz.func44, Tryz.ntmps44
    go_wp2_with fail
    rw [← hW]
    clear hW
    go_region_held3 (fun w' => w'.cell? ⟨w.heap.size, 0, none⟩ = some (.slice y.A y.ns.length y.c) ∧ w'.cell? ⟨w.heap.size, 1, none⟩ = some (.slice y.L y.ms.length y.d) ∧ w'.cell? ⟨w.heap.size, 2, none⟩ = some (.bool y.late))
      (first | (with_reducible exact imCells HXd.out) | (exact imCells (HX.out.next (HNW.out _))) | (exact imCells (HX.out.next (HNX.out _ _))) | (with_reducible exact imCells (HX.out.next HB2.out)) | fail)
      (first
        | (go_at_call 74; refine (concat3 (W.heap.size + 1) _ none (some ⟨W.heap.size, 0, none⟩) none 0 1 0 [] [y] [] _ (by simp) (by simp) (by simp) (by simp) rfl rfl rfl (ims_none rfl) (one_ims (by simp) (by simp) (by simp) (by simp; omega) (HY.out.next (HNX.out _ _))) (ims_none rfl) (by omega)).mono ?_; rintro e w2 ⟨⟨R, dd, rfl, hdd, hi⟩, hb⟩; have HB2 := Lib.hid (below_next (HNX.out _ _) hb); have HDD := Lib.hid hdd; have HI := Lib.hid hi; clear hdd hi hb)
        | fail)
    go_wp2
    go_returns
    exact ⟨⟨R, dd, rfl, HDD.out, HI.out⟩, below_next HB.out HB2.out⟩
theorem withItem_any (P : Option Addr) (c : Nat) (xs : List Im) (k : Nat) (y : Im) (w : World) (hr : Ims w w.heap.size P xs) (hy : ImIn w w.heap.size y) (hk : k ≤ xs.length) (h14 : xs.length ≤ 14) (hc : RowOk P xs.length c) :
    Calls Tryz.prog 44 #[.slice P xs.length c, .int .i64 k, y.val] w fun e w' => (∃ R d, e = .returned (.slice R (ins xs k y).length d) ∧ RowOk R (ins xs k y).length d ∧ Ims w' w'.heap.size R (ins xs k y)) ∧ Below w.heap.size w w' := by
  rcases hc.form with ⟨rfl, rfl⟩ | ⟨b, o, rfl⟩
  · have h0 := hc.le
    obtain rfl : xs = [] := List.eq_nil_of_length_eq_zero (by omega)
    obtain rfl : k = 0 := by simpa using hk
    exact withItem_none y w hy
  · exact withItem_some b o c xs k y w hr hy hk h14 ⟨hc.le, hc.hi⟩
end Go.Proofs.YtnlcdfaojcnkpaaGreatDoor
