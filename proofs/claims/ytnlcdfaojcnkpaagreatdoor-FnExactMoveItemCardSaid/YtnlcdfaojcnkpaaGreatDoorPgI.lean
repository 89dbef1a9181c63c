/- A list without one item, and with one more, in the model: the items keep their names and marks where they lie. -/
import Derived.Test.YtnlcdfaojcnkpaaGreatDoorBi
import Derived.Test.YtnlcdfaojcnkpaaGreatDoorBf
import Derived.Deep.RegionHeld3
import Derived.IntWalk
namespace Go.Proofs.YtnlcdfaojcnkpaaGreatDoor
open Go.ChangeShapes Go.WideShapes Go.ChangeAt Go.RowKit Go.PlainAid
set_option linter.unusedVariables false

section
variable {α : Type} [Flat α]
theorem add_off (b o j : Nat) : (⟨b, o, none⟩ : Addr).add j = ⟨b, o + j, none⟩ := by
  unfold Addr.add
  by_cases e : j = 0 <;> simp [e]
theorem it_take (xs : List α) (m i : Nat) (hi : i < m) : it (xs.take m) i = it xs i := by
  unfold it
  rw [List.getD_eq_getElem?_getD, List.getD_eq_getElem?_getD, List.getElem?_take, if_pos hi]
theorem it_drop (xs : List α) (k i : Nat) : it (xs.drop k) i = it xs (k + i) := by
  unfold it
  rw [List.getD_eq_getElem?_getD, List.getD_eq_getElem?_getD, List.getElem?_drop]
/-- The cells of a part of a list, where they lie. -/
theorem part_src {w W : World} {B : Nat} {A : Option Addr} {xs : List α} (hs : 0 < Flat.sz α) (h : Lst w B A xs) (hb : Below B w W) (k m : Nat) (hk : k + m ≤ xs.length) (hm : 0 < m) :
    ∃ b o, A = some ⟨b, o, none⟩ ∧ ∀ j u, (((xs.drop k).take m).flatMap Flat.cells)[j]? = some u → W.cell? ⟨b, o + k * Flat.sz α + j, none⟩ = some u := by
  obtain ⟨b, o, rfl, hbl, hc⟩ := h (by omega)
  refine ⟨b, o, rfl, fun j u hj => ?_⟩
  have hlen := (List.getElem?_eq_some_iff.1 hj).1
  have hzl : ((xs.drop k).take m).length = m := by rw [List.length_take, List.length_drop]; omega
  rw [flat_len, hzl] at hlen
  have hq : j / Flat.sz α < m := Nat.div_lt_of_lt_mul (by rw [Nat.mul_comm]; exact hlen)
  have hr : j % Flat.sz α < Flat.sz α := Nat.mod_lt _ hs
  have e : j = j / Flat.sz α * Flat.sz α + j % Flat.sz α := by rw [Nat.mul_comm]; exact (Nat.div_add_mod j _).symm
  rw [e, flat_get _ _ _ (by rw [hzl]; exact hq) hr, it_take _ _ _ hq, it_drop] at hj
  have := (hc (k + j / Flat.sz α) (by omega)).below hb hbl _ _ hj
  rw [← this]
  congr 2
  rw [Nat.add_mul]
  omega
end
theorem head_src {w W : World} {B b o : Nat} {xs : List Im} (h : Lst w B (some ⟨b, o, none⟩) xs) (hb : Below B w W) (k : Nat) (hk : k ≤ xs.length) (hp : 0 < k) :
    ∀ j u, ((xs.take k).flatMap Flat.cells)[j]? = some u → W.cell? ((⟨b, o, none⟩ : Addr).add j) = some u := fun j u hj => by
  obtain ⟨b', o', e, hc⟩ := part_src (by decide) h hb 0 k (by omega) hp
  cases e
  have := hc j u (by rw [List.drop_zero]; exact hj)
  rw [add_off, ← this, Nat.zero_mul, Nat.add_zero]
theorem tail_src {w W : World} {B b o : Nat} {xs : List Im} (h : Lst w B (some ⟨b, o, none⟩) xs) (hb : Below B w W) (k : Nat) (hk : k < xs.length) :
    ∀ j u, ((xs.drop k).flatMap Flat.cells)[j]? = some u → W.cell? ((⟨b, o + k * 3, none⟩ : Addr).add j) = some u := fun j u hj => by
  obtain ⟨b', o', e, hc⟩ := part_src (by decide) h hb k (xs.length - k) (by omega) (by omega)
  cases e
  have := hc j u (by rw [List.take_of_length_le (by rw [List.length_drop]; exact Nat.le_refl _)]; exact hj)
  rw [add_off, ← this]
  rfl
theorem own_from {B a : Nat} {o p : Option Nat} (h : o = p ∨ o = some a) (hp : ∀ k, p = some k → B ≤ k) (ha : B ≤ a) : ∀ k, o = some k → B ≤ k := fun k e => by
  rcases h with h | h
  · exact hp k (h ▸ e)
  · rw [h] at e
    cases e
    exact ha
theorem below_adn0 (w : World) (o : Obj) : Below w.heap.size w (w.drew.alloc o) := below_next (below_drew w) (below_alloc _ o)
/-- A slice that a call has made: nil, or at the head of a block; its room. -/
structure RowOk (R : Option Addr) (n d : Nat) : Prop where
  le : n ≤ d
  hi : d ≤ 9223372036854775807
  form : (R = none ∧ d = 0) ∨ ∃ b o, R = some ⟨b, o, none⟩
/-- A row of items is a list of them. -/
theorem ims_of_row {w : World} {B : Nat} {e : TypeId} {v : Value} (ys : List Im) (h : w.ownsRow B e 3 v ys.length (ys.flatMap Flat.cells)) (hy : ∀ i, i < ys.length → ImIn w w.heap.size (it ys i)) :
    ∃ R d, v = .slice R ys.length d ∧ RowOk R ys.length d ∧ Ims w w.heap.size R ys := by
  rcases h.2 with ⟨hv, h0⟩ | ⟨g, cap, cur, rfl, h3, h4, h5⟩
  · exact ⟨none, 0, by rw [hv, h0], ⟨by omega, by omega, .inl ⟨rfl, rfl⟩⟩, fun hp => absurd hp (by omega), hy⟩
  · have hlt := h.lt g rfl
    exact ⟨some ⟨g, 0, none⟩, cap, rfl, ⟨h5.1, by have := h5.2.1; unfold maxLen at this; exact this, .inr ⟨g, 0, rfl⟩⟩, fun _ => ⟨g, 0, rfl, hlt.2, (own_of_row (α := Im) (cap := cap) (e := e) (base := B) ys h).cell⟩, hy⟩
theorem it_erase (xs : List Im) (k i : Nat) : it (xs.eraseIdx k) i = if i < k then it xs i else it xs (i + 1) := by
  unfold it
  rw [List.getD_eq_getElem?_getD, List.getElem?_eraseIdx]
  by_cases h : i < k
  · rw [if_pos h, if_pos h, List.getD_eq_getElem?_getD]
  · rw [if_neg h, if_neg h, List.getD_eq_getElem?_getD]
theorem erase_len (xs : List Im) (k : Nat) (h : k < xs.length) : (xs.eraseIdx k).length = xs.length - 1 := by rw [List.length_eraseIdx, if_pos h]
theorem erase_in {w : World} {B : Nat} {xs : List Im} (h : ∀ i, i < xs.length → ImIn w B (it xs i)) (k : Nat) (hk : k < xs.length) : ∀ i, i < (xs.eraseIdx k).length → ImIn w B (it (xs.eraseIdx k) i) := fun i hi => by
  rw [erase_len xs k hk] at hi
  rw [it_erase]
  by_cases e : i < k
  · rw [if_pos e]
    exact h i (by omega)
  · rw [if_neg e]
    exact h (i + 1) (by omega)

set_option maxRecDepth 20000 in
set_option maxHeartbeats 2000000 in
theorem pgWithout_any (P : Option Addr) (c : Nat) (xs : List Im) (k : Nat) (w : World) (hr : Ims w w.heap.size P xs) (hk : k < xs.length) (h14 : xs.length ≤ 15) (hc : xs.length ≤ c ∧ c ≤ 9223372036854775807) :
    Calls Tryz.prog 53 #[.slice P xs.length c, .int .i64 k] w fun e w' => (∃ R d, e = .returned (.slice R (xs.eraseIdx k).length d) ∧ RowOk R (xs.eraseIdx k).length d ∧ Ims w' w'.heap.size R (xs.eraseIdx k)) ∧ Below w.heap.size w w' := by
  obtain ⟨i0, hi, hz0, hz1, hz2⟩ := info_parts Tryz.infoIm
  have HZ := Lib.hid (And.intro hi (And.intro hz0 (And.intro hz1 hz2)))
  obtain ⟨b, o, rfl, hbl, hc0⟩ := hr.out.im (by omega)
  have HR := Lib.hid hr
  have HXd := Lib.hid ((hc0 0 (by omega)).below (below_drew w) hbl).c0
  have HXb := Lib.hid (fun w' (hb : Below w.heap.size w w') => ((hc0 0 (by omega)).below hb hbl).c0)
  obtain ⟨d', hd'⟩ : ∃ d', xs.length = k + 1 + d' := ⟨xs.length - (k + 1), by omega⟩
  have HD := Lib.hid hd'
  have HC := Lib.hid hc
  have q0 : (0 : Int) ≤ (k : Int) := by omega
  have q1 : (k : Int) ≤ (c : Int) := by omega
  have q2 : (0 : Int) ≤ (k : Int) + 1 := by omega
  have q3 : (k : Int) + 1 ≤ (xs.length : Int) := by omega
  have q4 : (xs.length : Int) ≤ (c : Int) := by omega
  have q5 : ((k : Int) + 1).toNat = k + 1 := by omega
  have q7 : xs.length - (k + 1) = d' := by omega
  have q8 : IntKind.i64.wrap ((k : Int) + 1) = (k : Int) + 1 := IntWalk.i64_in _ (by omega)
  have q10 : (k : Int) ≤ (k : Int) + 1 := by omega
  have q11 : (k : Int) ≤ ((k + 1 : Nat) : Int) := by omega
  have hi24 : k ≤ 24 := by omega
  have hd24 : d' ≤ 24 := by omega
  have hle : k + 1 ≤ xs.length := by omega
  clear hr hi hz0 hz1 hz2 hc0 hd'
  have HEL := Lib.hid (show (xs.eraseIdx k).length = k + d' by rw [erase_len xs k hle]; have := HD.out; omega)
  have HSR1 := Lib.hid (fun W (hb : Below w.heap.size w W) (hp : 0 < k) => head_src HR.out.out hb k (Nat.le_of_lt hle) hp)
  have HSR2 := Lib.hid (fun W (hb : Below w.heap.size w W) (hp : 0 < d') => tail_src HR.out.out hb (k + 1) (by have := HD.out; omega))
  have HPRE1 := Lib.hid trivial
  by_cases hcap : c = k + 1
  · have HD0 := Lib.hid (show d' = 0 by have := HD.out; have := HC.out; omega)
    subst hcap
    go_enter Tryz.func53, Tryz.ntmps53
    go_wp2_with fail
    go_region_held3 (fun w' => w'.cell? ⟨b, o + 0 * 3, none⟩ = some (.slice (it xs 0).A (it xs 0).ns.length (it xs 0).c))
      (first | (with_reducible exact HXd.out) | (exact HXb.out _ (below_adn w _)) | (with_reducible exact HXb.out _ HB6.out) | (with_reducible exact HXb.out _ HB7.out))
      (first
        | (have hpre := HPRE1; clear hpre HPRE1; refine step_append_srcN _ (by rfl) (.tmp 5) (.tmp 8) 33 (by rfl) w.heap.size 41 i0 (.agg #[.slice none 0 0, .slice none 0 0, .bool false]) 3 56 (by decide) Tryz.underlying33 HZ.out.1 HZ.out.2.1 HZ.out.2.2.1 HZ.out.2.2.2 rfl (.slice (some ⟨w.heap.size, 0, none⟩) 0 0) 0 [] (by rfl) (owns_emptyN _ _ _ _ _ (Nat.le_refl _) (heap_at_new w _ _ rfl)) (some ⟨b, o, none⟩) k _ ((xs.take k).flatMap Flat.cells) (by rfl) (by rw [flat_len, List.length_take, Nat.min_eq_left (by omega)]; rfl) (fun hp => ⟨_, rfl, HSR1.out _ (below_adn w _) hp⟩) (im_one _) (by unfold maxLen; omega) (by omega) (by simp) ?_; intro v6 w6 hown6 hgrow6 hat6; rw [Nat.zero_add, List.nil_append] at hown6; have hb6 := Below.grown (below_adn w _) hgrow6 (by simp) (fun kk e => by simp [Value.ownBlock] at e; omega); have HO6 := Lib.hid hown6; have HAT6 := Lib.hid (own_from (B := w.heap.size) hat6 (by simp [Value.ownBlock]) (by simp)); have HB6 := Lib.hid hb6; have HPRE2 := Lib.hid trivial; clear hown6 hgrow6 hat6 hb6)
        | (have hpre := HPRE2; clear hpre HPRE2; refine step_append_srcN _ (by rfl) (.tmp 9) (.tmp 13) 33 (by rfl) w.heap.size 41 i0 (.agg #[.slice none 0 0, .slice none 0 0, .bool false]) 3 56 (by decide) Tryz.underlying33 HZ.out.1 HZ.out.2.1 HZ.out.2.2.1 HZ.out.2.2.2 rfl v6 k _ (by rfl) HO6.out (some ⟨b, o, none⟩) d' _ ((xs.drop (k + 1)).flatMap Flat.cells) (by rfl) (by rw [flat_len, List.length_drop]; have := HD.out; show _ * 3 = _; omega) (fun hp => absurd HD0.out (Nat.ne_of_gt hp)) (im_one _) (by unfold maxLen; omega) (by omega) HB6.out.size ?_; intro v7 w7 hown7 hgrow7 hat7; rw [← List.flatMap_append, ← List.eraseIdx_eq_take_drop_succ] at hown7; have hb7 := Below.grown HB6.out hgrow7 HB6.out.size HAT6.out; have HB7 := Lib.hid hb7; have HO7 := Lib.hid hown7; clear hown7 hgrow7 hat7 hb7)
        | fail)
    have ho7 := HO7.out
    rw [← HEL.out] at ho7
    obtain ⟨R, dd, rfl, hdd, hims⟩ := ims_of_row _ ho7 (erase_in (HR.out.next HB7.out).each k hle)
    have HI := Lib.hid hims
    have HDD := Lib.hid hdd
    clear ho7 hims hdd
    go_wp2
    go_returns
    exact ⟨⟨R, dd, rfl, HDD.out, HI.out⟩, HB7.out⟩
  · have q9 : k + 1 < c := by omega
    go_enter Tryz.func53, Tryz.ntmps53
    go_wp2_with fail
    go_region_held3 (fun w' => w'.cell? ⟨b, o + 0 * 3, none⟩ = some (.slice (it xs 0).A (it xs 0).ns.length (it xs 0).c))
      (first | (with_reducible exact HXd.out) | (exact HXb.out _ (below_adn w _)) | (with_reducible exact HXb.out _ HB6.out) | (with_reducible exact HXb.out _ HB7.out))
      (first
        | (have hpre := HPRE1; clear hpre HPRE1; refine step_append_srcN _ (by rfl) (.tmp 5) (.tmp 8) 33 (by rfl) w.heap.size 41 i0 (.agg #[.slice none 0 0, .slice none 0 0, .bool false]) 3 56 (by decide) Tryz.underlying33 HZ.out.1 HZ.out.2.1 HZ.out.2.2.1 HZ.out.2.2.2 rfl (.slice (some ⟨w.heap.size, 0, none⟩) 0 0) 0 [] (by rfl) (owns_emptyN _ _ _ _ _ (Nat.le_refl _) (heap_at_new w _ _ rfl)) (some ⟨b, o, none⟩) k _ ((xs.take k).flatMap Flat.cells) (by rfl) (by rw [flat_len, List.length_take, Nat.min_eq_left (by omega)]; rfl) (fun hp => ⟨_, rfl, HSR1.out _ (below_adn w _) hp⟩) (im_one _) (by unfold maxLen; omega) (by omega) (by simp) ?_; intro v6 w6 hown6 hgrow6 hat6; rw [Nat.zero_add, List.nil_append] at hown6; have hb6 := Below.grown (below_adn w _) hgrow6 (by simp) (fun kk e => by simp [Value.ownBlock] at e; omega); have HO6 := Lib.hid hown6; have HAT6 := Lib.hid (own_from (B := w.heap.size) hat6 (by simp [Value.ownBlock]) (by simp)); have HB6 := Lib.hid hb6; have HPRE2 := Lib.hid trivial; clear hown6 hgrow6 hat6 hb6)
        | (have hpre := HPRE2; clear hpre HPRE2; refine step_append_srcN _ (by rfl) (.tmp 9) (.tmp 13) 33 (by rfl) w.heap.size 41 i0 (.agg #[.slice none 0 0, .slice none 0 0, .bool false]) 3 56 (by decide) Tryz.underlying33 HZ.out.1 HZ.out.2.1 HZ.out.2.2.1 HZ.out.2.2.2 rfl v6 k _ (by rfl) HO6.out (some ⟨b, o + (k + 1) * 3, none⟩) d' _ ((xs.drop (k + 1)).flatMap Flat.cells) (by rfl) (by rw [flat_len, List.length_drop]; have := HD.out; show _ * 3 = _; omega) (fun hp => ⟨_, rfl, HSR2.out _ HB6.out hp⟩) (im_one _) (by unfold maxLen; omega) (by omega) HB6.out.size ?_; intro v7 w7 hown7 hgrow7 hat7; rw [← List.flatMap_append, ← List.eraseIdx_eq_take_drop_succ] at hown7; have hb7 := Below.grown HB6.out hgrow7 HB6.out.size HAT6.out; have HB7 := Lib.hid hb7; have HO7 := Lib.hid hown7; clear hown7 hgrow7 hat7 hb7)
        | fail)
    have ho7 := HO7.out
    rw [← HEL.out] at ho7
    obtain ⟨R, dd, rfl, hdd, hims⟩ := ims_of_row _ ho7 (erase_in (HR.out.next HB7.out).each k hle)
    have HI := Lib.hid hims
    have HDD := Lib.hid hdd
    clear ho7 hims hdd
    go_wp2
    go_returns
    exact ⟨⟨R, dd, rfl, HDD.out, HI.out⟩, HB7.out⟩
end Go.Proofs.YtnlcdfaojcnkpaaGreatDoor
