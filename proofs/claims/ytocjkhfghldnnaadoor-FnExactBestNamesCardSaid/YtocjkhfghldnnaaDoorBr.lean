/- Best single programmes, in plain words: which elements are chosen, one after the other. Which elements a single programme has: going through them by falling bases; how many there can be. Numbers of choices, family by family, in plain words. -/
import Derived.Test.YtocjkhfghldnnaaDoorCode
namespace Go.Proofs.YtocjkhfghldnnaaDoor
open Go.ChangeShapes Go.WideShapes Go.ChangeAt Go.RowKit
set_option linter.unusedVariables false

/-- Element k may be chosen, b being the best one before it (-1: none). -/
def CanBe (x : Cd) (room out : List Int) (b : Int) (k : Nat) : Prop := 0 < it room (it x.els k).fam.toNat ∧ (k : Int) ∉ out ∧ (b < 0 ∨ (it x.els b.toNat).base < (it x.els k).base)
instance (x : Cd) (room out : List Int) (b : Int) (k : Nat) : Decidable (CanBe x room out b k) := by unfold CanBe; exact inferInstance
/-- The best one of the first k elements, or -1. -/
def bstI (x : Cd) (room out : List Int) : Nat → Int
  | 0 => -1
  | k + 1 => if CanBe x room out (bstI x room out k) k then (k : Int) else bstI x room out k
theorem bstI_yes {x : Cd} {room out : List Int} {k : Nat} (h : CanBe x room out (bstI x room out k) k) : bstI x room out (k + 1) = k := if_pos h
theorem bstI_no {x : Cd} {room out : List Int} {k : Nat} (h : ¬ CanBe x room out (bstI x room out k) k) : bstI x room out (k + 1) = bstI x room out k := if_neg h
theorem bstI_le (x : Cd) (room out : List Int) : ∀ k : Nat, -1 ≤ bstI x room out k ∧ bstI x room out k < k
  | 0 => by simp [bstI]
  | k + 1 => by
    have := bstI_le x room out k
    rw [bstI]
    split <;> omega
theorem bstI_good (x : Cd) (room out : List Int) : ∀ k : Nat, 0 ≤ bstI x room out k → 0 < it room (it x.els (bstI x room out k).toNat).fam.toNat ∧ bstI x room out k ∉ out
  | 0, h => by simp [bstI] at h
  | k + 1, h => by
    by_cases q : CanBe x room out (bstI x room out k) k
    · rw [bstI_yes q]
      exact ⟨q.1, q.2.1⟩
    · rw [bstI_no q] at h ⊢
      exact bstI_good x room out k h
/-- What is chosen after some steps, and the room that is left for each family. -/
structure Ch where
  out : List Int
  room : List Int
def chStep (x : Cd) (s : Ch) : Ch := if bstI x s.room s.out x.els.length < 0 then s else ⟨s.out ++ [bstI x s.room s.out x.els.length], s.room.set (it x.els (bstI x s.room s.out x.els.length).toNat).fam.toNat (it s.room (it x.els (bstI x s.room s.out x.els.length).toNat).fam.toNat - 1)⟩
def chTo (x : Cd) : Nat → Ch
  | 0 => ⟨[], x.lims⟩
  | j + 1 => chStep x (chTo x j)
theorem chStep_no {x : Cd} {s : Ch} (h : bstI x s.room s.out x.els.length < 0) : chStep x s = s := if_pos h
theorem chStep_yes {x : Cd} {s : Ch} (h : ¬ bstI x s.room s.out x.els.length < 0) : chStep x s = ⟨s.out ++ [bstI x s.room s.out x.els.length], s.room.set (it x.els (bstI x s.room s.out x.els.length).toNat).fam.toNat (it s.room (it x.els (bstI x s.room s.out x.els.length).toNat).fam.toNat - 1)⟩ := if_neg h
theorem chTo_len (x : Cd) : ∀ j, (chTo x j).out.length ≤ j
  | 0 => Nat.le_refl _
  | j + 1 => by
    have h := chTo_len x j
    rw [chTo]
    by_cases q : bstI x (chTo x j).room (chTo x j).out x.els.length < 0
    · rw [chStep_no q]
      omega
    · rw [chStep_yes q]
      simp
      omega
theorem chTo_room (x : Cd) : ∀ j, (chTo x j).room.length = x.lims.length
  | 0 => rfl
  | j + 1 => by
    have h := chTo_room x j
    rw [chTo]
    by_cases q : bstI x (chTo x j).room (chTo x j).out x.els.length < 0
    · rw [chStep_no q, h]
    · rw [chStep_yes q, List.length_set, h]
/-- Fewer than j chosen after j steps: there is none to choose any more. -/
theorem chTo_stuck (x : Cd) : ∀ j, (chTo x j).out.length < j → bstI x (chTo x j).room (chTo x j).out x.els.length < 0
  | 0, h => absurd h (by omega)
  | j + 1, h => by
    rw [chTo] at h ⊢
    by_cases q : bstI x (chTo x j).room (chTo x j).out x.els.length < 0
    · rw [chStep_no q]
      exact q
    · have h2 : ¬ (chTo x j).out.length < j := fun e => q (chTo_stuck x j e)
      rw [chStep_yes q] at h
      simp at h
      omega
theorem chTo_more (x : Cd) (j : Nat) (h : bstI x (chTo x j).room (chTo x j).out x.els.length < 0) : ∀ m, chTo x (j + m) = chTo x j
  | 0 => rfl
  | m + 1 => by
    have e := chTo_more x j h m
    rw [← Nat.add_assoc, chTo, e, chStep_no h]
theorem chTo_mem (x : Cd) : ∀ j, ∀ i, i ∈ (chTo x j).out → 0 ≤ i ∧ i < (x.els.length : Int)
  | 0, i, h => by cases h
  | j + 1, i, h => by
    rw [chTo] at h
    by_cases q : bstI x (chTo x j).room (chTo x j).out x.els.length < 0
    · rw [chStep_no q] at h
      exact chTo_mem x j i h
    · rw [chStep_yes q] at h
      rcases List.mem_append.1 h with h1 | h1
      · exact chTo_mem x j i h1
      · have e : i = bstI x (chTo x j).room (chTo x j).out x.els.length := by simpa using h1
        have := bstI_le x (chTo x j).room (chTo x j).out x.els.length
        omega
theorem chTo_nodup (x : Cd) : ∀ j, (chTo x j).out.Nodup
  | 0 => List.nodup_nil
  | j + 1 => by
    have h := chTo_nodup x j
    rw [chTo]
    by_cases q : bstI x (chTo x j).room (chTo x j).out x.els.length < 0
    · rw [chStep_no q]
      exact h
    · rw [chStep_yes q]
      have hb := (bstI_good x (chTo x j).room (chTo x j).out x.els.length (by omega)).2
      refine List.nodup_append.2 ⟨h, by simp, fun a ha b hb' => ?_⟩
      have e : b = bstI x (chTo x j).room (chTo x j).out x.els.length := by simpa using hb'
      rw [e]
      exact fun q => hb (q ▸ ha)
end Go.Proofs.YtocjkhfghldnnaaDoor

namespace Go.Proofs.YtocjkhfghldnnaaDoor
open Go.ChangeShapes Go.WideShapes Go.ChangeAt Go.RowKit
set_option linter.unusedVariables false

/-- An element that may be chosen. -/
structure Cand (x : Cd) (room out : List Int) (k : Nat) : Prop where
  room : 0 < it room (it x.els k).fam.toNat
  out : (k : Int) ∉ out
theorem bstI_low (x : Cd) (room out : List Int) (t : Nat) (hb : ∀ k, k < x.els.length → Cand x room out k → k = t ∨ (it x.els k).base < (it x.els t).base ∨ ((it x.els k).base = (it x.els t).base ∧ t < k)) (ht : t < x.els.length) : ∀ m, m ≤ t → bstI x room out m < 0 ∨ (it x.els (bstI x room out m).toNat).base < (it x.els t).base
  | 0, _ => .inl (by simp [bstI])
  | m + 1, hm => by
    by_cases q : CanBe x room out (bstI x room out m) m
    · rw [bstI_yes q]
      rcases hb m (by omega) ⟨q.1, q.2.1⟩ with h | h | h
      · omega
      · exact .inr h
      · omega
    · rw [bstI_no q]
      exact bstI_low x room out t hb ht m (by omega)
theorem bstI_best (x : Cd) (room out : List Int) (t : Nat) (ht : t < x.els.length) (hc : Cand x room out t) (hb : ∀ k, k < x.els.length → Cand x room out k → k = t ∨ (it x.els k).base < (it x.els t).base ∨ ((it x.els k).base = (it x.els t).base ∧ t < k)) : ∀ m, t < m → m ≤ x.els.length → bstI x room out m = t
  | 0, h, _ => absurd h (by omega)
  | m + 1, h, hm => by
    by_cases e : m = t
    · subst e
      exact bstI_yes ⟨hc.room, hc.out, bstI_low x room out m hb ht m (Nat.le_refl _)⟩
    · have ih := bstI_best x room out t ht hc hb m (by omega) (by omega)
      have hn : ¬ CanBe x room out (bstI x room out m) m := fun q => by
        have h3 := q.2.2
        rw [ih] at h3
        rcases hb m (by omega) ⟨q.1, q.2.1⟩ with h | h | h
        · exact e h
        · have : (t : Int).toNat = t := rfl
          rw [this] at h3
          omega
        · have : (t : Int).toNat = t := rfl
          rw [this] at h3
          omega
      rw [bstI_no hn, ih]
theorem bstI_none (x : Cd) (room out : List Int) (h : ∀ k, k < x.els.length → ¬ Cand x room out k) : bstI x room out x.els.length < 0 := by
  rcases Int.lt_or_le (bstI x room out x.els.length) 0 with h1 | h1
  · exact h1
  · have h2 := bstI_good x room out x.els.length h1
    have h3 := bstI_le x room out x.els.length
    refine absurd ⟨h2.1, ?_⟩ (h (bstI x room out x.els.length).toNat (by omega))
    rw [Int.toNat_of_nonneg h1]
    exact h2.2
theorem bstI_some (x : Cd) (room out : List Int) (t : Nat) (hc : Cand x room out t) : ∀ m, t < m → 0 ≤ bstI x room out m
  | 0, h => absurd h (by omega)
  | m + 1, h => by
    by_cases q : CanBe x room out (bstI x room out m) m
    · rw [bstI_yes q]
      omega
    · rw [bstI_no q]
      by_cases e : m = t
      · subst e
        rcases Int.lt_or_le (bstI x room out m) 0 with h1 | h1
        · exact absurd ⟨hc.room, hc.out, .inl h1⟩ q
        · exact h1
      · exact bstI_some x room out t hc m (by omega)
/-- One step of a walk over the elements: taken if fewer than n are, and there is room. -/
def snStep (x : Cd) (n : Nat) (s : Ch) (i : Int) : Ch := if s.out.length < n ∧ 0 < it s.room (it x.els i.toNat).fam.toNat then ⟨s.out ++ [i], s.room.set (it x.els i.toNat).fam.toNat (it s.room (it x.els i.toNat).fam.toNat - 1)⟩ else s
theorem snStep_yes {x : Cd} {n : Nat} {s : Ch} {i : Int} (h1 : s.out.length < n) (h2 : 0 < it s.room (it x.els i.toNat).fam.toNat) : snStep x n s i = ⟨s.out ++ [i], s.room.set (it x.els i.toNat).fam.toNat (it s.room (it x.els i.toNat).fam.toNat - 1)⟩ := if_pos ⟨h1, h2⟩
theorem snStep_no {x : Cd} {n : Nat} {s : Ch} {i : Int} (h : ¬ (s.out.length < n ∧ 0 < it s.room (it x.els i.toNat).fam.toNat)) : snStep x n s i = s := if_neg h
def snTo (x : Cd) (n : Nat) (l : List Int) : Nat → Ch
  | 0 => ⟨[], x.lims⟩
  | k + 1 => snStep x n (snTo x n l k) (it l k)
/-- All elements, by falling bases, equal ones by their indices. -/
structure Falls (x : Cd) (l : List Int) : Prop where
  len : l.length = x.els.length
  rng : ∀ i, i < l.length → 0 ≤ it l i ∧ it l i < x.els.length
  all : ∀ k, k < x.els.length → ∃ i, i < l.length ∧ it l i = k
  ord : ∀ i j, i < j → j < l.length → (it x.els (it l j).toNat).base < (it x.els (it l i).toNat).base ∨ ((it x.els (it l j).toNat).base = (it x.els (it l i).toNat).base ∧ it l i < it l j)
structure ScIs (x : Cd) (n : Nat) (l : List Int) (k j : Nat) : Prop where
  le : j ≤ n
  eq : snTo x n l k = chTo x j
  out : (chTo x j).out.length = j
  past : ∀ i, i < k → j = n ∨ it l i ∈ (chTo x j).out ∨ ¬ 0 < it (chTo x j).room (it x.els (it l i).toNat).fam.toNat
  from_ : ∀ v, v ∈ (chTo x j).out → ∃ q, q < k ∧ it l q = v
theorem snTo_is (x : Cd) (n : Nat) (l : List Int) (h : Falls x l) : ∀ k, k ≤ l.length → ∃ j, ScIs x n l k j
  | 0, _ => ⟨0, Nat.zero_le _, rfl, rfl, fun i hi => absurd hi (by omega), fun v hv => by cases hv⟩
  | k + 1, hk => by
    obtain ⟨j, hj⟩ := snTo_is x n l h k (by omega)
    have hr := h.rng k (by omega)
    by_cases hjn : j = n
    · refine ⟨j, hj.le, ?_, hj.out, fun i hi => .inl hjn, fun v hv => ?_⟩
      · rw [snTo, hj.eq, snStep_no (by rw [hj.out]; omega)]
      · obtain ⟨q, h1, h2⟩ := hj.from_ v hv
        exact ⟨q, by omega, h2⟩
    · by_cases hc : 0 < it (chTo x j).room (it x.els (it l k).toNat).fam.toNat
      · have hlt : j < n := by have := hj.le; omega
        have hout : it l k ∉ (chTo x j).out := fun hm => by
          obtain ⟨q, h1, h2⟩ := hj.from_ _ hm
          rcases h.ord q k h1 (by omega) with h3 | h3
          · rw [h2] at h3; omega
          · omega
        have hb := bstI_best x (chTo x j).room (chTo x j).out (it l k).toNat (by omega) ⟨hc, by rw [Int.toNat_of_nonneg hr.1]; exact hout⟩ (fun e he hce => by
          obtain ⟨i, hi, hie⟩ := h.all e he
          rcases Nat.lt_trichotomy i k with hik | hik | hik
          · rcases hj.past i hik with h1 | h1 | h1
            · exact absurd h1 hjn
            · rw [hie] at h1
              exact absurd h1 hce.out
            · rw [hie] at h1
              exact absurd hce.room h1
          · subst hik
            left
            omega
          · have := h.ord k i hik hi
            rw [hie] at this
            have e2 : (e : Int).toNat = e := rfl
            rw [e2] at this
            rcases this with h1 | h1
            · exact .inr (.inl h1)
            · exact .inr (.inr ⟨h1.1, by omega⟩)) x.els.length (by omega) (Nat.le_refl _)
        have hst : chTo x (j + 1) = ⟨(chTo x j).out ++ [it l k], (chTo x j).room.set (it x.els (it l k).toNat).fam.toNat (it (chTo x j).room (it x.els (it l k).toNat).fam.toNat - 1)⟩ := by
          rw [chTo, chStep_yes (by rw [hb]; omega), hb]
          have e2 : (((it l k).toNat : Int)).toNat = (it l k).toNat := rfl
          rw [e2, Int.toNat_of_nonneg hr.1]
        refine ⟨j + 1, by omega, ?_, ?_, fun i hi => ?_, fun v hv => ?_⟩
        · rw [snTo, hj.eq, snStep_yes (by rw [hj.out]; exact hlt) hc, hst]
        · rw [hst]
          simp [hj.out]
        · rw [hst]
          by_cases hik : i = k
          · subst hik
            exact .inr (.inl (by simp))
          · rcases hj.past i (by omega) with h1 | h1 | h1
            · exact absurd h1 hjn
            · exact .inr (.inl (List.mem_append_left _ h1))
            · refine .inr (.inr ?_)
              show ¬ 0 < it ((chTo x j).room.set _ _) _
              by_cases hf : (it x.els (it l k).toNat).fam.toNat < (chTo x j).room.length
              · rw [it_set _ _ _ _ hf]
                split
                · rename_i he
                  rw [he] at h1
                  omega
                · exact h1
              · rw [List.set_eq_of_length_le (by omega)]
                exact h1
        · rw [hst] at hv
          rcases List.mem_append.1 hv with h1 | h1
          · obtain ⟨q, h2, h3⟩ := hj.from_ v h1
            exact ⟨q, by omega, h3⟩
          · exact ⟨k, by omega, (List.mem_singleton.1 h1).symm⟩
      · refine ⟨j, hj.le, ?_, hj.out, fun i hi => ?_, fun v hv => ?_⟩
        · rw [snTo, hj.eq, snStep_no (fun q => hc q.2)]
        · by_cases hik : i = k
          · subst hik
            exact .inr (.inr hc)
          · exact hj.past i (by omega)
        · obtain ⟨q, h1, h2⟩ := hj.from_ v hv
          exact ⟨q, by omega, h2⟩
/-- Going through all elements by falling bases is choosing the best one again and again. -/
theorem snTo_all (x : Cd) (n : Nat) (l : List Int) (h : Falls x l) : snTo x n l l.length = chTo x n := by
  obtain ⟨j, hj⟩ := snTo_is x n l h l.length (Nat.le_refl _)
  rw [hj.eq]
  by_cases hjn : j = n
  · rw [hjn]
  · have := hj.le
    have hs := bstI_none x (chTo x j).room (chTo x j).out (fun k hk hc => by
      obtain ⟨i, hi, hie⟩ := h.all k hk
      rcases hj.past i hi with h1 | h1 | h1
      · exact hjn h1
      · rw [hie] at h1
        exact hc.out h1
      · rw [hie] at h1
        exact h1 hc.room)
    have := chTo_more x j hs (n - j)
    rw [show j + (n - j) = n by omega] at this
    exact this.symm
/-- How many elements a family has, and how many of them are in a list. -/
def szF (x : Cd) (f : Int) : Nat → Nat
  | 0 => 0
  | k + 1 => if (it x.els k).fam = f then szF x f k + 1 else szF x f k
def cnF (x : Cd) (out : List Int) (f : Int) : Nat → Nat
  | 0 => 0
  | k + 1 => if (it x.els k).fam = f ∧ (k : Int) ∈ out then cnF x out f k + 1 else cnF x out f k
theorem cnF_nil (x : Cd) (f : Int) : ∀ k, cnF x [] f k = 0
  | 0 => rfl
  | k + 1 => by rw [cnF, if_neg (by simp), cnF_nil x f k]
theorem cnF_le (x : Cd) (out : List Int) (f : Int) : ∀ k, cnF x out f k ≤ szF x f k
  | 0 => Nat.le_refl _
  | k + 1 => by
    have := cnF_le x out f k
    rw [cnF, szF]
    by_cases h : (it x.els k).fam = f
    · rw [if_pos h]
      split <;> omega
    · rw [if_neg h, if_neg (fun q => h q.1)]
      exact this
theorem cnF_all (x : Cd) (out : List Int) (f : Int) : ∀ k, (∀ i, i < k → (it x.els i).fam = f → (i : Int) ∈ out) → cnF x out f k = szF x f k
  | 0, _ => rfl
  | k + 1, h => by
    rw [cnF, szF, cnF_all x out f k (fun i hi => h i (by omega))]
    by_cases q : (it x.els k).fam = f
    · rw [if_pos q, if_pos ⟨q, h k (by omega) q⟩]
    · rw [if_neg q, if_neg (fun e => q e.1)]
theorem cnF_add (x : Cd) (out : List Int) (b : Nat) (f : Int) (hb : (b : Int) ∉ out) : ∀ k, cnF x (out ++ [(b : Int)]) f k = cnF x out f k + if b < k ∧ (it x.els b).fam = f then 1 else 0
  | 0 => by simp [cnF]
  | k + 1 => by
    have ih := cnF_add x out b f hb k
    rw [cnF, cnF, ih]
    by_cases e : k = b
    · subst e
      have h1 : ¬ ((it x.els k).fam = f ∧ (k : Int) ∈ out) := fun q => hb q.2
      by_cases q : (it x.els k).fam = f
      · simp [q, hb]
      · simp [q]
    · have hm : ((k : Int) ∈ out ++ [(b : Int)]) ↔ ((k : Int) ∈ out) := by
        rw [List.mem_append, List.mem_singleton]
        constructor
        · rintro (h | h)
          · exact h
          · omega
        · exact .inl
      have h2 : (b < k + 1 ∧ (it x.els b).fam = f) ↔ (b < k ∧ (it x.els b).fam = f) := by
        constructor
        · rintro ⟨h1, h2⟩
          exact ⟨by omega, h2⟩
        · rintro ⟨h1, h2⟩
          exact ⟨by omega, h2⟩
      simp only [hm, h2]
      split <;> omega
/-- The sums over the families. -/
def sum5 (g : Nat → Nat) : Nat := g 0 + g 1 + g 2 + g 3 + g 4
structure FamsOk (x : Cd) : Prop where
  lims : x.lims.length = 5
  nn : ∀ f : Nat, f < 5 → 0 ≤ it x.lims f
  fam : ∀ i, i < x.els.length → 0 ≤ (it x.els i).fam ∧ (it x.els i).fam ≤ 4
structure Cnts (x : Cd) (s : Ch) : Prop where
  len : s.room.length = 5
  room : ∀ f : Nat, f < 5 → it s.room f + cnF x s.out (f : Int) x.els.length = it x.lims f
  nn : ∀ f : Nat, f < 5 → 0 ≤ it s.room f
  out : s.out.length = sum5 (fun f => cnF x s.out (f : Int) x.els.length)
theorem chTo_cnts (x : Cd) (hx : FamsOk x) : ∀ j, Cnts x (chTo x j)
  | 0 => ⟨hx.lims, fun f hf => by simp [chTo, cnF_nil], fun f hf => hx.nn f hf, by simp [chTo, cnF_nil, sum5]⟩
  | j + 1 => by
    have ih := chTo_cnts x hx j
    rw [chTo]
    by_cases q : bstI x (chTo x j).room (chTo x j).out x.els.length < 0
    · rw [chStep_no q]
      exact ih
    · rw [chStep_yes q]
      have hb := bstI_le x (chTo x j).room (chTo x j).out x.els.length
      have hg := bstI_good x (chTo x j).room (chTo x j).out x.els.length (by omega)
      generalize hbb : bstI x (chTo x j).room (chTo x j).out x.els.length = b at q hb hg
      obtain ⟨b, rfl⟩ : ∃ n : Nat, b = n := ⟨b.toNat, by omega⟩
      rw [show ((b : Int)).toNat = b from rfl] at hg ⊢
      have hf := hx.fam b (by omega)
      obtain ⟨f0, hf0⟩ : ∃ n : Nat, (it x.els b).fam = n := ⟨(it x.els b).fam.toNat, by omega⟩
      have hff : (it x.els b).fam.toNat = f0 := by omega
      rw [hff] at hg ⊢
      have hl := ih.len
      have hlt : f0 < 5 := by omega
      have hcn : ∀ f : Nat, cnF x ((chTo x j).out ++ [(b : Int)]) (f : Int) x.els.length = cnF x (chTo x j).out (f : Int) x.els.length + if f = f0 then 1 else 0 := fun f => by
        rw [cnF_add x _ b _ hg.2]
        congr 1
        by_cases e : f = f0
        · rw [if_pos e, if_pos ⟨by omega, by omega⟩]
        · rw [if_neg e, if_neg (fun k => e (by omega))]
      refine ⟨by simp [hl], fun f hf5 => ?_, fun f hf5 => ?_, ?_⟩
      · have := ih.room f hf5
        show it ((chTo x j).room.set f0 _) f + _ = _
        rw [it_set _ _ _ _ (by omega), hcn f]
        by_cases e : f = f0
        · subst e
          rw [if_pos rfl, if_pos rfl]
          omega
        · rw [if_neg e, if_neg e]
          omega
      · have := ih.nn f hf5
        show 0 ≤ it ((chTo x j).room.set f0 _) f
        rw [it_set _ _ _ _ (by omega)]
        split
        · omega
        · exact this
      · have := ih.out
        show ((chTo x j).out ++ [(b : Int)]).length = _
        rw [List.length_append, this]
        show sum5 (fun f => cnF x (chTo x j).out (f : Int) x.els.length) + 1 = sum5 (fun f => cnF x ((chTo x j).out ++ [(b : Int)]) (f : Int) x.els.length)
        simp only [hcn, sum5]
        rcases (show f0 = 0 ∨ f0 = 1 ∨ f0 = 2 ∨ f0 = 3 ∨ f0 = 4 by omega) with e | e | e | e | e <;> subst e <;> simp <;> omega
/-- The sum of the families' limits, where the families are large enough. -/
def capF (x : Cd) (f : Nat) : Nat := min (it x.lims f).toNat (szF x (f : Int) x.els.length)
theorem chTo_count (x : Cd) (hx : FamsOk x) (n : Nat) : (chTo x n).out.length = min (sum5 (capF x)) n := by
  have hc := chTo_cnts x hx n
  have hl := chTo_len x n
  have hle : ∀ f : Nat, f < 5 → cnF x (chTo x n).out (f : Int) x.els.length ≤ capF x f := fun f hf => by
    have h1 := hc.room f hf
    have h2 := hc.nn f hf
    have h3 := cnF_le x (chTo x n).out (f : Int) x.els.length
    unfold capF
    omega
  have hsum : (chTo x n).out.length ≤ sum5 (capF x) := by
    rw [hc.out]
    have h0 := hle 0 (by omega)
    have h1 := hle 1 (by omega)
    have h2 := hle 2 (by omega)
    have h3 := hle 3 (by omega)
    have h4 := hle 4 (by omega)
    show cnF x (chTo x n).out ((0 : Nat) : Int) x.els.length + cnF x (chTo x n).out ((1 : Nat) : Int) x.els.length + cnF x (chTo x n).out ((2 : Nat) : Int) x.els.length + cnF x (chTo x n).out ((3 : Nat) : Int) x.els.length + cnF x (chTo x n).out ((4 : Nat) : Int) x.els.length ≤ capF x 0 + capF x 1 + capF x 2 + capF x 3 + capF x 4
    omega
  by_cases h : (chTo x n).out.length < n
  · have hst := chTo_stuck x n h
    have hno : ∀ k, k < x.els.length → ¬ Cand x (chTo x n).room (chTo x n).out k := fun k hk hcd => by
      have := bstI_some x (chTo x n).room (chTo x n).out k hcd x.els.length hk
      omega
    have heq : ∀ f : Nat, f < 5 → cnF x (chTo x n).out (f : Int) x.els.length = capF x f := fun f hf => by
      have h1 := hc.room f hf
      have h2 := hc.nn f hf
      by_cases hz : 0 < it (chTo x n).room f
      · have hall := cnF_all x (chTo x n).out (f : Int) x.els.length (fun i hi hfi => by
          by_cases hm : (i : Int) ∈ (chTo x n).out
          · exact hm
          · exact absurd ⟨by rw [hfi]; exact hz, hm⟩ (hno i hi))
        unfold capF
        omega
      · have h3 := cnF_le x (chTo x n).out (f : Int) x.els.length
        unfold capF
        omega
    have : (chTo x n).out.length = sum5 (capF x) := by
      rw [hc.out]
      have h0 := heq 0 (by omega)
      have h1 := heq 1 (by omega)
      have h2 := heq 2 (by omega)
      have h3 := heq 3 (by omega)
      have h4 := heq 4 (by omega)
      show cnF x (chTo x n).out ((0 : Nat) : Int) x.els.length + cnF x (chTo x n).out ((1 : Nat) : Int) x.els.length + cnF x (chTo x n).out ((2 : Nat) : Int) x.els.length + cnF x (chTo x n).out ((3 : Nat) : Int) x.els.length + cnF x (chTo x n).out ((4 : Nat) : Int) x.els.length = capF x 0 + capF x 1 + capF x 2 + capF x 3 + capF x 4
      omega
    omega
  · omega
end Go.Proofs.YtocjkhfghldnnaaDoor

namespace Go.Proofs.YtocjkhfghldnnaaDoor
open Go.ChangeShapes Go.WideShapes Go.ChangeAt Go.RowKit
set_option linter.unusedVariables false

/-- Sums, and binomial numbers. -/
def smT (g : Nat → Int) : Nat → Int
  | 0 => 0
  | m + 1 => smT g m + g m
theorem smT_congr {g h : Nat → Int} : ∀ m, (∀ i, i < m → g i = h i) → smT g m = smT h m
  | 0, _ => rfl
  | m + 1, e => by rw [smT, smT, smT_congr m (fun i hi => e i (by omega)), e m (by omega)]
theorem smT_far (g : Nat → Int) (m : Nat) : ∀ d, (∀ i, m ≤ i → i < m + d → g i = 0) → smT g (m + d) = smT g m
  | 0, _ => rfl
  | d + 1, e => by rw [← Nat.add_assoc, smT, smT_far g m d (fun i h1 h2 => e i h1 (by omega)), e (m + d) (by omega) (by omega), Int.add_zero]
theorem smT_cut (g : Nat → Int) (m n : Nat) (h : m ≤ n) (e : ∀ i, m ≤ i → i < n → g i = 0) : smT g n = smT g m := by
  have := smT_far g m (n - m) (fun i h1 h2 => e i h1 (by omega))
  rwa [show m + (n - m) = n by omega] at this
theorem smT_front (g : Nat → Int) : ∀ m, smT g (m + 1) = g 0 + smT (fun i => g (i + 1)) m
  | 0 => by simp [smT]
  | m + 1 => by rw [smT, smT_front g m, smT, Int.add_assoc]
theorem smT_turn : ∀ (t : Nat) (g : Nat → Int), smT (fun p => g (t - p)) (t + 1) = smT g (t + 1)
  | 0, g => by simp [smT]
  | t + 1, g => by
    rw [smT_front (fun p => g (t + 1 - p)) (t + 1)]
    have e : smT (fun i => g (t + 1 - (i + 1))) (t + 1) = smT (fun i => g (t - i)) (t + 1) := smT_congr _ (fun i _ => by rw [show t + 1 - (i + 1) = t - i by omega])
    rw [e, smT_turn t g]
    show g (t + 1 - 0) + smT g (t + 1) = smT g (t + 1) + g (t + 1)
    rw [Nat.sub_zero, Int.add_comm]
theorem smT_le {g h : Nat → Int} : ∀ m, (∀ i, i < m → g i ≤ h i) → smT g m ≤ smT h m
  | 0, _ => Int.le_refl _
  | m + 1, e => by
    have h1 := smT_le m (fun i hi => e i (by omega))
    have h2 := e m (by omega)
    rw [smT, smT]
    omega
theorem smT_nn {g : Nat → Int} : ∀ m, (∀ i, i < m → 0 ≤ g i) → 0 ≤ smT g m
  | 0, _ => Int.le_refl _
  | m + 1, e => by
    have h1 := smT_nn m (fun i hi => e i (by omega))
    have h2 := e m (by omega)
    rw [smT]
    omega
theorem smT_most {g : Nat → Int} (M : Int) : ∀ m : Nat, (∀ i, i < m → g i ≤ M) → smT g m ≤ M * m
  | 0, _ => by simp [smT]
  | m + 1, e => by
    have h1 := smT_most M m (fun i hi => e i (by omega))
    have h2 := e m (by omega)
    rw [smT]
    have : M * ((m + 1 : Nat) : Int) = M * m + M := by rw [Int.natCast_succ, Int.mul_add, Int.mul_one]
    omega
theorem smT_mul (g : Nat → Int) (c : Int) : ∀ m, smT (fun i => c * g i) m = c * smT g m
  | 0 => by simp [smT]
  | m + 1 => by rw [smT, smT, smT_mul g c m, Int.mul_add]
def bin : Nat → Nat → Int
  | _, 0 => 1
  | 0, _ + 1 => 0
  | m + 1, k + 1 => bin m (k + 1) + bin m k
theorem bin_zero (m : Nat) : bin m 0 = 1 := by cases m <;> rfl
theorem bin_nn : ∀ m k, 0 ≤ bin m k
  | _, 0 => by rw [bin_zero]; omega
  | 0, _ + 1 => by rw [bin]; omega
  | m + 1, k + 1 => by
    have h1 := bin_nn m (k + 1)
    have h2 := bin_nn m k
    rw [bin]
    omega
theorem bin_far : ∀ m k, m < k → bin m k = 0
  | _, 0, h => absurd h (by omega)
  | 0, _ + 1, _ => rfl
  | m + 1, k + 1, h => by rw [bin, bin_far m (k + 1) (by omega), bin_far m k (by omega)]; rfl
theorem bin_sum : ∀ m j, smT (bin m) j ≤ 2 ^ m
  | 0, 0 => by simp [smT]
  | 0, j + 1 => by
    rw [smT_cut (bin 0) 1 (j + 1) (by omega) (fun i h1 _ => bin_far 0 i (by omega))]
    simp [smT, bin]
  | m + 1, 0 => by
    have : (0 : Int) ≤ 2 ^ (m + 1) := Int.le_of_lt (Int.pow_pos (by omega))
    simpa [smT] using this
  | m + 1, j + 1 => by
    have h1 := bin_sum m (j + 1)
    have h2 := bin_sum m j
    have e : smT (bin (m + 1)) (j + 1) = smT (bin m) (j + 1) + smT (bin m) j := by
      rw [smT_front, smT_front (bin m) j, bin_zero, bin_zero]
      have : ∀ j, smT (fun i => bin (m + 1) (i + 1)) j = smT (fun i => bin m (i + 1)) j + smT (bin m) j := fun j => by
        induction j with
        | zero => rfl
        | succ j ih => rw [smT, smT, smT, ih, bin]; omega
      rw [this]
      omega
    rw [e, Int.pow_succ]
    omega
theorem bin_le (m k : Nat) : bin m k ≤ 2 ^ m := by
  have h := bin_sum m (k + 1)
  have h2 := smT_nn k (fun i _ => bin_nn m i)
  rw [smT] at h
  omega
theorem pow24 {m : Nat} (h : m ≤ 24) : (2 : Int) ^ m ≤ 16777216 := by
  have : (2 : Nat) ^ m ≤ 2 ^ 24 := Nat.pow_le_pow_right (by omega) h
  have e : ((2 ^ m : Nat) : Int) = (2 : Int) ^ m := by simp
  omega
theorem szF_sum (x : Cd) (hf : ∀ i, i < x.els.length → 0 ≤ (it x.els i).fam ∧ (it x.els i).fam ≤ 4) : ∀ k, k ≤ x.els.length → szF x 0 k + szF x 1 k + szF x 2 k + szF x 3 k + szF x 4 k = k
  | 0, _ => rfl
  | k + 1, hk => by
    have ih := szF_sum x hf k (by omega)
    have h := hf k (by omega)
    simp only [szF]
    rcases (show (it x.els k).fam = 0 ∨ (it x.els k).fam = 1 ∨ (it x.els k).fam = 2 ∨ (it x.els k).fam = 3 ∨ (it x.els k).fam = 4 by omega) with e | e | e | e | e <;> simp [e] <;> omega
theorem szF_le (x : Cd) (f : Int) : ∀ k, szF x f k ≤ k
  | 0 => Nat.le_refl _
  | k + 1 => by
    have := szF_le x f k
    rw [szF]
    split <;> omega
/-- The size of family f, its limit; how many choices of k elements the first f families have. -/
def fsz (x : Cd) (f : Nat) : Nat := szF x (f : Int) x.els.length
def flm (x : Cd) (f : Nat) : Nat := (it x.lims f).toNat
def cw (x : Cd) : Nat → Nat → Int
  | 0, k => if k = 0 then 1 else 0
  | f + 1, k => smT (fun j => cw x f (k - j) * bin (fsz x f) j) (min k (flm x f) + 1)
def fsum (x : Cd) : Nat → Nat
  | 0 => 0
  | f + 1 => fsum x f + fsz x f
theorem cw_le (x : Cd) : ∀ f k, 0 ≤ cw x f k ∧ cw x f k ≤ 2 ^ fsum x f
  | 0, k => by
    rw [cw]
    split <;> simp [fsum]
  | f + 1, k => by
    rw [cw]
    refine ⟨smT_nn _ (fun i _ => Int.mul_nonneg (cw_le x f _).1 (bin_nn _ _)), ?_⟩
    refine Int.le_trans (smT_le (h := fun j => 2 ^ fsum x f * bin (fsz x f) j) _ (fun i _ => Int.mul_le_mul_of_nonneg_right (cw_le x f _).2 (bin_nn _ _))) ?_
    rw [smT_mul, fsum, Int.pow_add]
    exact Int.mul_le_mul_of_nonneg_left (bin_sum _ _) (Int.le_of_lt (Int.pow_pos (by omega)))
/-- The number of entries that can differ from 0. -/
def fcap (x : Cd) : Nat → Nat
  | 0 => 1
  | f + 1 => fcap x f + min (flm x f) (fsz x f)
theorem cw_far (x : Cd) : ∀ f k, fcap x f ≤ k → cw x f k = 0
  | 0, k, h => by
    rw [cw, if_neg]
    have : 1 ≤ k := h
    omega
  | f + 1, k, h => by
    rw [fcap] at h
    rw [cw]
    have : ∀ m, m ≤ flm x f + 1 → smT (fun j => cw x f (k - j) * bin (fsz x f) j) m = 0 := fun m hm => by
      induction m with
      | zero => rfl
      | succ m ih =>
        rw [smT, ih (by omega)]
        by_cases e : m ≤ fsz x f
        · rw [cw_far x f (k - m) (by omega)]
          simp
        · rw [bin_far _ _ (by omega)]
          simp
    exact this _ (by omega)
/-- Numbers of ways joined. -/
def cvV (a b : List Int) (t : Nat) : Int := smT (fun j => it a (t - j) * it b j) (t + 1)
def cvP (a b : List Int) (t : Nat) (p : Nat) : Int := if p ≤ t ∧ t - p < b.length then it a p * it b (t - p) else 0
def cvE (a b : List Int) (i k t : Nat) : Int := smT (cvP a b t) i + if i ≤ t ∧ t - i < k then it a i * it b (t - i) else 0
def cvL (a b : List Int) (i k : Nat) : List Int := (List.range (a.length + b.length - 1)).map (cvE a b i k)
theorem cvL_len (a b : List Int) (i k : Nat) : (cvL a b i k).length = a.length + b.length - 1 := by simp [cvL]
theorem cvL_it (a b : List Int) (i k t : Nat) (h : t < a.length + b.length - 1) : it (cvL a b i k) t = cvE a b i k t := by
  have := it_get (cvL a b i k) t (by rw [cvL_len]; exact h)
  rw [cvL, List.getElem?_map, List.getElem?_range h] at this
  simp only [Option.map_some, Option.some.injEq] at this
  exact this.symm
theorem cvL_zero (a b : List Int) : cvL a b 0 0 = List.replicate (a.length + b.length - 1) 0 := by
  refine it_ext _ _ (by rw [cvL_len, List.length_replicate]) (fun t ht => ?_)
  rw [cvL_len] at ht
  rw [cvL_it a b 0 0 t ht]
  have := it_get (List.replicate (a.length + b.length - 1) (0 : Int)) t (by rw [List.length_replicate]; exact ht)
  rw [List.getElem?_replicate, if_pos ht] at this
  simp only [Option.some.injEq] at this
  rw [← this]
  simp [cvE, smT]
theorem cvL_put (a b : List Int) (i k : Nat) (hi : i < a.length) (hk : k < b.length) : (cvL a b i k).set (i + k) (it (cvL a b i k) (i + k) + it a i * it b k) = cvL a b i (k + 1) := by
  refine it_ext _ _ (by rw [List.length_set, cvL_len, cvL_len]) (fun t ht => ?_)
  rw [List.length_set, cvL_len] at ht
  rw [it_set _ _ _ _ (by rw [cvL_len]; omega), cvL_it a b i (k + 1) t ht]
  by_cases e : t = i + k
  · subst e
    rw [if_pos rfl, cvL_it a b i k _ ht]
    unfold cvE
    rw [if_neg (by omega), if_pos (by omega), show i + k - i = k by omega]
    omega
  · rw [if_neg e, cvL_it a b i k t ht]
    unfold cvE
    have : (i ≤ t ∧ t - i < k) ↔ (i ≤ t ∧ t - i < k + 1) := by omega
    simp only [this]
theorem cvL_row (a b : List Int) (i : Nat) : cvL a b i b.length = cvL a b (i + 1) 0 := by
  refine it_ext _ _ (by rw [cvL_len, cvL_len]) (fun t ht => ?_)
  rw [cvL_len] at ht
  rw [cvL_it a b i _ t ht, cvL_it a b (i + 1) 0 t ht]
  unfold cvE
  rw [smT, if_neg (c := i + 1 ≤ t ∧ t - (i + 1) < 0) (by omega), Int.add_zero]
  rfl
theorem it_far {l : List Int} {i : Nat} (h : l.length ≤ i) : it l i = 0 := by
  unfold it
  rw [List.getD_eq_getElem?_getD, List.getElem?_eq_none h]
  rfl
theorem cvL_all (a b : List Int) (t : Nat) (ht : t < a.length + b.length - 1) : it (cvL a b a.length 0) t = cvV a b t := by
  rw [cvL_it a b _ _ t ht]
  unfold cvE cvV
  rw [if_neg (by omega), Int.add_zero]
  have hp : ∀ p, cvP a b t p = if p ≤ t then it a p * it b (t - p) else 0 := fun p => by
    unfold cvP
    by_cases h1 : p ≤ t
    · by_cases h2 : t - p < b.length
      · rw [if_pos ⟨h1, h2⟩, if_pos h1]
      · rw [if_neg (fun q => h2 q.2), if_pos h1, it_far (l := b) (by omega)]
        simp
    · rw [if_neg (fun q => h1 q.1), if_neg h1]
  have h1 : smT (cvP a b t) a.length = smT (cvP a b t) (t + 1) := by
    rcases Nat.le_total a.length (t + 1) with h | h
    · exact (smT_cut _ _ _ h (fun i h1 h2 => by rw [hp, it_far h1]; simp)).symm
    · exact smT_cut _ _ _ h (fun i h1 h2 => by rw [hp, if_neg (by omega)])
  rw [h1, ← smT_turn t (fun j => it a (t - j) * it b j)]
  refine smT_congr _ (fun i hi => ?_)
  rw [hp, if_pos (by omega)]
  show _ = it a (t - (t - i)) * it b (t - i)
  rw [show t - (t - i) = i by omega]
theorem cvL_far (a b : List Int) (t : Nat) (ht : a.length + b.length - 1 ≤ t) (ha : 0 < a.length) (hb : 0 < b.length) : cvV a b t = 0 := by
  unfold cvV
  have : ∀ m, smT (fun j => it a (t - j) * it b j) m = 0 := fun m => by
    induction m with
    | zero => rfl
    | succ m ih =>
      rw [smT, ih]
      by_cases e : m < b.length
      · rw [it_far (l := a) (by omega)]
        simp
      · rw [it_far (l := b) (by omega)]
        simp
  exact this _
/-- The choices out of m elements. -/
def binL (m : Nat) (c : Nat) : List Int := (List.range (c + 1)).map (bin m)
theorem binL_len (m c : Nat) : (binL m c).length = c + 1 := by simp [binL]
theorem binL_it (m c t : Nat) (h : t ≤ c) : it (binL m c) t = bin m t := by
  have := it_get (binL m c) t (by rw [binL_len]; omega)
  rw [binL, List.getElem?_map, List.getElem?_range (by omega)] at this
  simp only [Option.map_some, Option.some.injEq] at this
  exact this.symm
theorem binL_any (m t : Nat) : it (binL m m) t = bin m t := by
  by_cases h : t ≤ m
  · exact binL_it m m t h
  · rw [it_far (by rw [binL_len]; omega), bin_far m t (by omega)]
theorem binL_one : binL 0 0 = [1] := rfl
theorem binL_take (m c : Nat) (h : c ≤ m) : (binL m m).take (c + 1) = binL m c := by
  unfold binL
  rw [← List.map_take, List.take_range, show min (c + 1) (m + 1) = c + 1 by omega]
theorem binL_next (m : Nat) : cvL (binL m m) [1, 1] (binL m m).length 0 = binL (m + 1) (m + 1) := by
  refine it_ext _ _ (by rw [cvL_len, binL_len, binL_len]; rfl) (fun t ht => ?_)
  rw [cvL_len] at ht
  have h2 : t ≤ m + 1 := by rw [binL_len] at ht; simp at ht; omega
  rw [cvL_all _ _ t ht, binL_it _ _ t h2]
  unfold cvV
  cases t with
  | zero =>
    simp only [smT, binL_any]
    rw [bin_zero, bin_zero]
    rfl
  | succ t =>
    rw [smT_cut _ 2 (t + 1 + 1) (by omega) (fun i h1 _ => by rw [it_far (l := [1, 1]) (by simpa using h1)]; simp)]
    simp only [smT, binL_any]
    rw [bin]
    show 0 + bin m (t + 1 - 0) * 1 + bin m (t + 1 - 1) * 1 = _
    simp
/-- The ways of the first f families, as a list. -/
def cwL (x : Cd) (f : Nat) : List Int := (List.range (fcap x f)).map (cw x f)
theorem cwL_len (x : Cd) (f : Nat) : (cwL x f).length = fcap x f := by simp [cwL]
theorem cwL_it (x : Cd) (f t : Nat) : it (cwL x f) t = cw x f t := by
  by_cases h : t < fcap x f
  · have := it_get (cwL x f) t (by rw [cwL_len]; omega)
    rw [cwL, List.getElem?_map, List.getElem?_range h] at this
    simp only [Option.map_some, Option.some.injEq] at this
    exact this.symm
  · rw [it_far (by rw [cwL_len]; omega), cw_far x f t (by omega)]
theorem cwL_zero (x : Cd) : cwL x 0 = [1] := rfl
theorem cwL_next (x : Cd) (f : Nat) : cvL (cwL x f) (binL (fsz x f) (min (flm x f) (fsz x f))) (cwL x f).length 0 = cwL x (f + 1) := by
  refine it_ext _ _ (by rw [cvL_len, cwL_len, cwL_len, binL_len, fcap]; omega) (fun t ht => ?_)
  rw [cvL_len] at ht
  rw [cvL_all _ _ t ht, cwL_it]
  unfold cvV
  rw [cw]
  rw [smT_cut _ (min t (flm x f) + 1) (t + 1) (by omega) (fun i h1 h2 => by
    rw [it_far (l := binL _ _) (by rw [binL_len]; omega)]
    simp)]
  refine smT_congr _ (fun i hi => ?_)
  rw [cwL_it]
  by_cases e : i ≤ fsz x f
  · rw [binL_it _ _ _ (by omega)]
  · rw [it_far (l := binL _ _) (by rw [binL_len]; omega), bin_far _ _ (by omega)]
end Go.Proofs.YtocjkhfghldnnaaDoor
