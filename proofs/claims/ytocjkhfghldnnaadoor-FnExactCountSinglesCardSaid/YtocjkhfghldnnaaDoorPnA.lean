/- Which elements a single programme has: going through them by falling bases; how many there can be. -/
import Derived.Test.YtocjkhfghldnnaaDoorPnP
namespace Go.Proofs.YtocjkhfghldnnaaDoor
open Go.ChangeShapes Go.WideShapes Go.ChangeAt Go.RowKit
set_option linter.unusedVariables false

/-- An element that may be chosen. -/
structure Cand (x : Cd) (room out : List Int) (k : Nat) : Prop where
  room : 0 < it room (it x.els k).fam.toNat
  out : (k : Int) ∉ out
theorem bstI_low (x : Cd) (room out : List Int) (t : Nat) (hb : ∀ k, k < x.els.length → Cand x room out k → k = t ∨ (it x.els k).base < (it x.els t).base ∨ ((it x.els k).base = (it x.els t).base ∧ t < k)) (ht : t < x.els.length) : ∀ m, m ≤ t → bstI x room out m < 0 ∨ (it x.els (bstI x room out m).toNat).base < (it x.els t).base
  | 0, _ => .inl (by simp [bstI])
  | m + 1, hm => by
    by_cases q : CanBe x room out (bstI x room out m) m
    · rw [bstI_yes q]
      rcases hb m (by omega) ⟨q.1, q.2.1⟩ with h | h | h
      · omega
      · exact .inr h
      · omega
    · rw [bstI_no q]
      exact bstI_low x room out t hb ht m (by omega)
theorem bstI_best (x : Cd) (room out : List Int) (t : Nat) (ht : t < x.els.length) (hc : Cand x room out t) (hb : ∀ k, k < x.els.length → Cand x room out k → k = t ∨ (it x.els k).base < (it x.els t).base ∨ ((it x.els k).base = (it x.els t).base ∧ t < k)) : ∀ m, t < m → m ≤ x.els.length → bstI x room out m = t
  | 0, h, _ => absurd h (by omega)
  | m + 1, h, hm => by
    by_cases e : m = t
    · subst e
      exact bstI_yes ⟨hc.room, hc.out, bstI_low x room out m hb ht m (Nat.le_refl _)⟩
    · have ih := bstI_best x room out t ht hc hb m (by omega) (by omega)
      have hn : ¬ CanBe x room out (bstI x room out m) m := fun q => by
        have h3 := q.2.2
        rw [ih] at h3
        rcases hb m (by omega) ⟨q.1, q.2.1⟩ with h | h | h
        · exact e h
        · have : (t : Int).toNat = t := rfl
          rw [this] at h3
          omega
        · have : (t : Int).toNat = t := rfl
          rw [this] at h3
          omega
      rw [bstI_no hn, ih]
theorem bstI_none (x : Cd) (room out : List Int) (h : ∀ k, k < x.els.length → ¬ Cand x room out k) : bstI x room out x.els.length < 0 := by
  rcases Int.lt_or_le (bstI x room out x.els.length) 0 with h1 | h1
  · exact h1
  · have h2 := bstI_good x room out x.els.length h1
    have h3 := bstI_le x room out x.els.length
    refine absurd ⟨h2.1, ?_⟩ (h (bstI x room out x.els.length).toNat (by omega))
    rw [Int.toNat_of_nonneg h1]
    exact h2.2
theorem bstI_some (x : Cd) (room out : List Int) (t : Nat) (hc : Cand x room out t) : ∀ m, t < m → 0 ≤ bstI x room out m
  | 0, h => absurd h (by omega)
  | m + 1, h => by
    by_cases q : CanBe x room out (bstI x room out m) m
    · rw [bstI_yes q]
      omega
    · rw [bstI_no q]
      by_cases e : m = t
      · subst e
        rcases Int.lt_or_le (bstI x room out m) 0 with h1 | h1
        · exact absurd ⟨hc.room, hc.out, .inl h1⟩ q
        · exact h1
      · exact bstI_some x room out t hc m (by omega)
/-- One step of a walk over the elements: taken if fewer than n are, and there is room. -/
def snStep (x : Cd) (n : Nat) (s : Ch) (i : Int) : Ch := if s.out.length < n ∧ 0 < it s.room (it x.els i.toNat).fam.toNat then ⟨s.out ++ [i], s.room.set (it x.els i.toNat).fam.toNat (it s.room (it x.els i.toNat).fam.toNat - 1)⟩ else s
theorem snStep_yes {x : Cd} {n : Nat} {s : Ch} {i : Int} (h1 : s.out.length < n) (h2 : 0 < it s.room (it x.els i.toNat).fam.toNat) : snStep x n s i = ⟨s.out ++ [i], s.room.set (it x.els i.toNat).fam.toNat (it s.room (it x.els i.toNat).fam.toNat - 1)⟩ := if_pos ⟨h1, h2⟩
theorem snStep_no {x : Cd} {n : Nat} {s : Ch} {i : Int} (h : ¬ (s.out.length < n ∧ 0 < it s.room (it x.els i.toNat).fam.toNat)) : snStep x n s i = s := if_neg h
def snTo (x : Cd) (n : Nat) (l : List Int) : Nat → Ch
  | 0 => ⟨[], x.lims⟩
  | k + 1 => snStep x n (snTo x n l k) (it l k)
/-- All elements, by falling bases, equal ones by their indices. -/
structure Falls (x : Cd) (l : List Int) : Prop where
  len : l.length = x.els.length
  rng : ∀ i, i < l.length → 0 ≤ it l i ∧ it l i < x.els.length
  all : ∀ k, k < x.els.length → ∃ i, i < l.length ∧ it l i = k
  ord : ∀ i j, i < j → j < l.length → (it x.els (it l j).toNat).base < (it x.els (it l i).toNat).base ∨ ((it x.els (it l j).toNat).base = (it x.els (it l i).toNat).base ∧ it l i < it l j)
structure ScIs (x : Cd) (n : Nat) (l : List Int) (k j : Nat) : Prop where
  le : j ≤ n
  eq : snTo x n l k = chTo x j
  out : (chTo x j).out.length = j
  past : ∀ i, i < k → j = n ∨ it l i ∈ (chTo x j).out ∨ ¬ 0 < it (chTo x j).room (it x.els (it l i).toNat).fam.toNat
  from_ : ∀ v, v ∈ (chTo x j).out → ∃ q, q < k ∧ it l q = v
theorem snTo_is (x : Cd) (n : Nat) (l : List Int) (h : Falls x l) : ∀ k, k ≤ l.length → ∃ j, ScIs x n l k j
  | 0, _ => ⟨0, Nat.zero_le _, rfl, rfl, fun i hi => absurd hi (by omega), fun v hv => by cases hv⟩
  | k + 1, hk => by
    obtain ⟨j, hj⟩ := snTo_is x n l h k (by omega)
    have hr := h.rng k (by omega)
    by_cases hjn : j = n
    · refine ⟨j, hj.le, ?_, hj.out, fun i hi => .inl hjn, fun v hv => ?_⟩
      · rw [snTo, hj.eq, snStep_no (by rw [hj.out]; omega)]
      · obtain ⟨q, h1, h2⟩ := hj.from_ v hv
        exact ⟨q, by omega, h2⟩
    · by_cases hc : 0 < it (chTo x j).room (it x.els (it l k).toNat).fam.toNat
      · have hlt : j < n := by have := hj.le; omega
        have hout : it l k ∉ (chTo x j).out := fun hm => by
          obtain ⟨q, h1, h2⟩ := hj.from_ _ hm
          rcases h.ord q k h1 (by omega) with h3 | h3
          · rw [h2] at h3; omega
          · omega
        have hb := bstI_best x (chTo x j).room (chTo x j).out (it l k).toNat (by omega) ⟨hc, by rw [Int.toNat_of_nonneg hr.1]; exact hout⟩ (fun e he hce => by
          obtain ⟨i, hi, hie⟩ := h.all e he
          rcases Nat.lt_trichotomy i k with hik | hik | hik
          · rcases hj.past i hik with h1 | h1 | h1
            · exact absurd h1 hjn
            · rw [hie] at h1
              exact absurd h1 hce.out
            · rw [hie] at h1
              exact absurd hce.room h1
          · subst hik
            left
            omega
          · have := h.ord k i hik hi
            rw [hie] at this
            have e2 : (e : Int).toNat = e := rfl
            rw [e2] at this
            rcases this with h1 | h1
            · exact .inr (.inl h1)
            · exact .inr (.inr ⟨h1.1, by omega⟩)) x.els.length (by omega) (Nat.le_refl _)
        have hst : chTo x (j + 1) = ⟨(chTo x j).out ++ [it l k], (chTo x j).room.set (it x.els (it l k).toNat).fam.toNat (it (chTo x j).room (it x.els (it l k).toNat).fam.toNat - 1)⟩ := by
          rw [chTo, chStep_yes (by rw [hb]; omega), hb]
          have e2 : (((it l k).toNat : Int)).toNat = (it l k).toNat := rfl
          rw [e2, Int.toNat_of_nonneg hr.1]
        refine ⟨j + 1, by omega, ?_, ?_, fun i hi => ?_, fun v hv => ?_⟩
        · rw [snTo, hj.eq, snStep_yes (by rw [hj.out]; exact hlt) hc, hst]
        · rw [hst]
          simp [hj.out]
        · rw [hst]
          by_cases hik : i = k
          · subst hik
            exact .inr (.inl (by simp))
          · rcases hj.past i (by omega) with h1 | h1 | h1
            · exact absurd h1 hjn
            · exact .inr (.inl (List.mem_append_left _ h1))
            · refine .inr (.inr ?_)
              show ¬ 0 < it ((chTo x j).room.set _ _) _
              by_cases hf : (it x.els (it l k).toNat).fam.toNat < (chTo x j).room.length
              · rw [it_set _ _ _ _ hf]
                split
                · rename_i he
                  rw [he] at h1
                  omega
                · exact h1
              · rw [List.set_eq_of_length_le (by omega)]
                exact h1
        · rw [hst] at hv
          rcases List.mem_append.1 hv with h1 | h1
          · obtain ⟨q, h2, h3⟩ := hj.from_ v h1
            exact ⟨q, by omega, h3⟩
          · exact ⟨k, by omega, (List.mem_singleton.1 h1).symm⟩
      · refine ⟨j, hj.le, ?_, hj.out, fun i hi => ?_, fun v hv => ?_⟩
        · rw [snTo, hj.eq, snStep_no (fun q => hc q.2)]
        · by_cases hik : i = k
          · subst hik
            exact .inr (.inr hc)
          · exact hj.past i (by omega)
        · obtain ⟨q, h1, h2⟩ := hj.from_ v hv
          exact ⟨q, by omega, h2⟩
/-- Going through all elements by falling bases is choosing the best one again and again. -/
theorem snTo_all (x : Cd) (n : Nat) (l : List Int) (h : Falls x l) : snTo x n l l.length = chTo x n := by
  obtain ⟨j, hj⟩ := snTo_is x n l h l.length (Nat.le_refl _)
  rw [hj.eq]
  by_cases hjn : j = n
  · rw [hjn]
  · have := hj.le
    have hs := bstI_none x (chTo x j).room (chTo x j).out (fun k hk hc => by
      obtain ⟨i, hi, hie⟩ := h.all k hk
      rcases hj.past i hi with h1 | h1 | h1
      · exact hjn h1
      · rw [hie] at h1
        exact hc.out h1
      · rw [hie] at h1
        exact h1 hc.room)
    have := chTo_more x j hs (n - j)
    rw [show j + (n - j) = n by omega] at this
    exact this.symm
/-- How many elements a family has, and how many of them are in a list. -/
def szF (x : Cd) (f : Int) : Nat → Nat
  | 0 => 0
  | k + 1 => if (it x.els k).fam = f then szF x f k + 1 else szF x f k
def cnF (x : Cd) (out : List Int) (f : Int) : Nat → Nat
  | 0 => 0
  | k + 1 => if (it x.els k).fam = f ∧ (k : Int) ∈ out then cnF x out f k + 1 else cnF x out f k
theorem cnF_nil (x : Cd) (f : Int) : ∀ k, cnF x [] f k = 0
  | 0 => rfl
  | k + 1 => by rw [cnF, if_neg (by simp), cnF_nil x f k]
theorem cnF_le (x : Cd) (out : List Int) (f : Int) : ∀ k, cnF x out f k ≤ szF x f k
  | 0 => Nat.le_refl _
  | k + 1 => by
    have := cnF_le x out f k
    rw [cnF, szF]
    by_cases h : (it x.els k).fam = f
    · rw [if_pos h]
      split <;> omega
    · rw [if_neg h, if_neg (fun q => h q.1)]
      exact this
theorem cnF_all (x : Cd) (out : List Int) (f : Int) : ∀ k, (∀ i, i < k → (it x.els i).fam = f → (i : Int) ∈ out) → cnF x out f k = szF x f k
  | 0, _ => rfl
  | k + 1, h => by
    rw [cnF, szF, cnF_all x out f k (fun i hi => h i (by omega))]
    by_cases q : (it x.els k).fam = f
    · rw [if_pos q, if_pos ⟨q, h k (by omega) q⟩]
    · rw [if_neg q, if_neg (fun e => q e.1)]
theorem cnF_add (x : Cd) (out : List Int) (b : Nat) (f : Int) (hb : (b : Int) ∉ out) : ∀ k, cnF x (out ++ [(b : Int)]) f k = cnF x out f k + if b < k ∧ (it x.els b).fam = f then 1 else 0
  | 0 => by simp [cnF]
  | k + 1 => by
    have ih := cnF_add x out b f hb k
    rw [cnF, cnF, ih]
    by_cases e : k = b
    · subst e
      have h1 : ¬ ((it x.els k).fam = f ∧ (k : Int) ∈ out) := fun q => hb q.2
      by_cases q : (it x.els k).fam = f
      · simp [q, hb]
      · simp [q]
    · have hm : ((k : Int) ∈ out ++ [(b : Int)]) ↔ ((k : Int) ∈ out) := by
        rw [List.mem_append, List.mem_singleton]
        constructor
        · rintro (h | h)
          · exact h
          · omega
        · exact .inl
      have h2 : (b < k + 1 ∧ (it x.els b).fam = f) ↔ (b < k ∧ (it x.els b).fam = f) := by
        constructor
        · rintro ⟨h1, h2⟩
          exact ⟨by omega, h2⟩
        · rintro ⟨h1, h2⟩
          exact ⟨by omega, h2⟩
      simp only [hm, h2]
      split <;> omega
/-- The sums over the families. -/
def sum5 (g : Nat → Nat) : Nat := g 0 + g 1 + g 2 + g 3 + g 4
structure FamsOk (x : Cd) : Prop where
  lims : x.lims.length = 5
  nn : ∀ f : Nat, f < 5 → 0 ≤ it x.lims f
  fam : ∀ i, i < x.els.length → 0 ≤ (it x.els i).fam ∧ (it x.els i).fam ≤ 4
structure Cnts (x : Cd) (s : Ch) : Prop where
  len : s.room.length = 5
  room : ∀ f : Nat, f < 5 → it s.room f + cnF x s.out (f : Int) x.els.length = it x.lims f
  nn : ∀ f : Nat, f < 5 → 0 ≤ it s.room f
  out : s.out.length = sum5 (fun f => cnF x s.out (f : Int) x.els.length)
theorem chTo_cnts (x : Cd) (hx : FamsOk x) : ∀ j, Cnts x (chTo x j)
  | 0 => ⟨hx.lims, fun f hf => by simp [chTo, cnF_nil], fun f hf => hx.nn f hf, by simp [chTo, cnF_nil, sum5]⟩
  | j + 1 => by
    have ih := chTo_cnts x hx j
    rw [chTo]
    by_cases q : bstI x (chTo x j).room (chTo x j).out x.els.length < 0
    · rw [chStep_no q]
      exact ih
    · rw [chStep_yes q]
      have hb := bstI_le x (chTo x j).room (chTo x j).out x.els.length
      have hg := bstI_good x (chTo x j).room (chTo x j).out x.els.length (by omega)
      generalize hbb : bstI x (chTo x j).room (chTo x j).out x.els.length = b at q hb hg
      obtain ⟨b, rfl⟩ : ∃ n : Nat, b = n := ⟨b.toNat, by omega⟩
      rw [show ((b : Int)).toNat = b from rfl] at hg ⊢
      have hf := hx.fam b (by omega)
      obtain ⟨f0, hf0⟩ : ∃ n : Nat, (it x.els b).fam = n := ⟨(it x.els b).fam.toNat, by omega⟩
      have hff : (it x.els b).fam.toNat = f0 := by omega
      rw [hff] at hg ⊢
      have hl := ih.len
      have hlt : f0 < 5 := by omega
      have hcn : ∀ f : Nat, cnF x ((chTo x j).out ++ [(b : Int)]) (f : Int) x.els.length = cnF x (chTo x j).out (f : Int) x.els.length + if f = f0 then 1 else 0 := fun f => by
        rw [cnF_add x _ b _ hg.2]
        congr 1
        by_cases e : f = f0
        · rw [if_pos e, if_pos ⟨by omega, by omega⟩]
        · rw [if_neg e, if_neg (fun k => e (by omega))]
      refine ⟨by simp [hl], fun f hf5 => ?_, fun f hf5 => ?_, ?_⟩
      · have := ih.room f hf5
        show it ((chTo x j).room.set f0 _) f + _ = _
        rw [it_set _ _ _ _ (by omega), hcn f]
        by_cases e : f = f0
        · subst e
          rw [if_pos rfl, if_pos rfl]
          omega
        · rw [if_neg e, if_neg e]
          omega
      · have := ih.nn f hf5
        show 0 ≤ it ((chTo x j).room.set f0 _) f
        rw [it_set _ _ _ _ (by omega)]
        split
        · omega
        · exact this
      · have := ih.out
        show ((chTo x j).out ++ [(b : Int)]).length = _
        rw [List.length_append, this]
        show sum5 (fun f => cnF x (chTo x j).out (f : Int) x.els.length) + 1 = sum5 (fun f => cnF x ((chTo x j).out ++ [(b : Int)]) (f : Int) x.els.length)
        simp only [hcn, sum5]
        rcases (show f0 = 0 ∨ f0 = 1 ∨ f0 = 2 ∨ f0 = 3 ∨ f0 = 4 by omega) with e | e | e | e | e <;> subst e <;> simp <;> omega
/-- The sum of the families' limits, where the families are large enough. -/
def capF (x : Cd) (f : Nat) : Nat := min (it x.lims f).toNat (szF x (f : Int) x.els.length)
theorem chTo_count (x : Cd) (hx : FamsOk x) (n : Nat) : (chTo x n).out.length = min (sum5 (capF x)) n := by
  have hc := chTo_cnts x hx n
  have hl := chTo_len x n
  have hle : ∀ f : Nat, f < 5 → cnF x (chTo x n).out (f : Int) x.els.length ≤ capF x f := fun f hf => by
    have h1 := hc.room f hf
    have h2 := hc.nn f hf
    have h3 := cnF_le x (chTo x n).out (f : Int) x.els.length
    unfold capF
    omega
  have hsum : (chTo x n).out.length ≤ sum5 (capF x) := by
    rw [hc.out]
    have h0 := hle 0 (by omega)
    have h1 := hle 1 (by omega)
    have h2 := hle 2 (by omega)
    have h3 := hle 3 (by omega)
    have h4 := hle 4 (by omega)
    show cnF x (chTo x n).out ((0 : Nat) : Int) x.els.length + cnF x (chTo x n).out ((1 : Nat) : Int) x.els.length + cnF x (chTo x n).out ((2 : Nat) : Int) x.els.length + cnF x (chTo x n).out ((3 : Nat) : Int) x.els.length + cnF x (chTo x n).out ((4 : Nat) : Int) x.els.length ≤ capF x 0 + capF x 1 + capF x 2 + capF x 3 + capF x 4
    omega
  by_cases h : (chTo x n).out.length < n
  · have hst := chTo_stuck x n h
    have hno : ∀ k, k < x.els.length → ¬ Cand x (chTo x n).room (chTo x n).out k := fun k hk hcd => by
      have := bstI_some x (chTo x n).room (chTo x n).out k hcd x.els.length hk
      omega
    have heq : ∀ f : Nat, f < 5 → cnF x (chTo x n).out (f : Int) x.els.length = capF x f := fun f hf => by
      have h1 := hc.room f hf
      have h2 := hc.nn f hf
      by_cases hz : 0 < it (chTo x n).room f
      · have hall := cnF_all x (chTo x n).out (f : Int) x.els.length (fun i hi hfi => by
          by_cases hm : (i : Int) ∈ (chTo x n).out
          · exact hm
          · exact absurd ⟨by rw [hfi]; exact hz, hm⟩ (hno i hi))
        unfold capF
        omega
      · have h3 := cnF_le x (chTo x n).out (f : Int) x.els.length
        unfold capF
        omega
    have : (chTo x n).out.length = sum5 (capF x) := by
      rw [hc.out]
      have h0 := heq 0 (by omega)
      have h1 := heq 1 (by omega)
      have h2 := heq 2 (by omega)
      have h3 := heq 3 (by omega)
      have h4 := heq 4 (by omega)
      show cnF x (chTo x n).out ((0 : Nat) : Int) x.els.length + cnF x (chTo x n).out ((1 : Nat) : Int) x.els.length + cnF x (chTo x n).out ((2 : Nat) : Int) x.els.length + cnF x (chTo x n).out ((3 : Nat) : Int) x.els.length + cnF x (chTo x n).out ((4 : Nat) : Int) x.els.length = capF x 0 + capF x 1 + capF x 2 + capF x 3 + capF x 4
      omega
    omega
  · omega
end Go.Proofs.YtocjkhfghldnnaaDoor
