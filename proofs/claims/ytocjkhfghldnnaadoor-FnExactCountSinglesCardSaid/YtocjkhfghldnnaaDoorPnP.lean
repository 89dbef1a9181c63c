/- Best single programmes, in plain words: which elements are chosen, one after the other. -/
import Derived.Test.YtocjkhfghldnnaaDoorCode
namespace Go.Proofs.YtocjkhfghldnnaaDoor
open Go.ChangeShapes Go.WideShapes Go.ChangeAt Go.RowKit
set_option linter.unusedVariables false

/-- Element k may be chosen, b being the best one before it (-1: none). -/
def CanBe (x : Cd) (room out : List Int) (b : Int) (k : Nat) : Prop := 0 < it room (it x.els k).fam.toNat ∧ (k : Int) ∉ out ∧ (b < 0 ∨ (it x.els b.toNat).base < (it x.els k).base)
instance (x : Cd) (room out : List Int) (b : Int) (k : Nat) : Decidable (CanBe x room out b k) := by unfold CanBe; exact inferInstance
/-- The best one of the first k elements, or -1. -/
def bstI (x : Cd) (room out : List Int) : Nat → Int
  | 0 => -1
  | k + 1 => if CanBe x room out (bstI x room out k) k then (k : Int) else bstI x room out k
theorem bstI_yes {x : Cd} {room out : List Int} {k : Nat} (h : CanBe x room out (bstI x room out k) k) : bstI x room out (k + 1) = k := if_pos h
theorem bstI_no {x : Cd} {room out : List Int} {k : Nat} (h : ¬ CanBe x room out (bstI x room out k) k) : bstI x room out (k + 1) = bstI x room out k := if_neg h
theorem bstI_le (x : Cd) (room out : List Int) : ∀ k : Nat, -1 ≤ bstI x room out k ∧ bstI x room out k < k
  | 0 => by simp [bstI]
  | k + 1 => by
    have := bstI_le x room out k
    rw [bstI]
    split <;> omega
theorem bstI_good (x : Cd) (room out : List Int) : ∀ k : Nat, 0 ≤ bstI x room out k → 0 < it room (it x.els (bstI x room out k).toNat).fam.toNat ∧ bstI x room out k ∉ out
  | 0, h => by simp [bstI] at h
  | k + 1, h => by
    by_cases q : CanBe x room out (bstI x room out k) k
    · rw [bstI_yes q]
      exact ⟨q.1, q.2.1⟩
    · rw [bstI_no q] at h ⊢
      exact bstI_good x room out k h
/-- What is chosen after some steps, and the room that is left for each family. -/
structure Ch where
  out : List Int
  room : List Int
def chStep (x : Cd) (s : Ch) : Ch := if bstI x s.room s.out x.els.length < 0 then s else ⟨s.out ++ [bstI x s.room s.out x.els.length], s.room.set (it x.els (bstI x s.room s.out x.els.length).toNat).fam.toNat (it s.room (it x.els (bstI x s.room s.out x.els.length).toNat).fam.toNat - 1)⟩
def chTo (x : Cd) : Nat → Ch
  | 0 => ⟨[], x.lims⟩
  | j + 1 => chStep x (chTo x j)
theorem chStep_no {x : Cd} {s : Ch} (h : bstI x s.room s.out x.els.length < 0) : chStep x s = s := if_pos h
theorem chStep_yes {x : Cd} {s : Ch} (h : ¬ bstI x s.room s.out x.els.length < 0) : chStep x s = ⟨s.out ++ [bstI x s.room s.out x.els.length], s.room.set (it x.els (bstI x s.room s.out x.els.length).toNat).fam.toNat (it s.room (it x.els (bstI x s.room s.out x.els.length).toNat).fam.toNat - 1)⟩ := if_neg h
theorem chTo_len (x : Cd) : ∀ j, (chTo x j).out.length ≤ j
  | 0 => Nat.le_refl _
  | j + 1 => by
    have h := chTo_len x j
    rw [chTo]
    by_cases q : bstI x (chTo x j).room (chTo x j).out x.els.length < 0
    · rw [chStep_no q]
      omega
    · rw [chStep_yes q]
      simp
      omega
theorem chTo_room (x : Cd) : ∀ j, (chTo x j).room.length = x.lims.length
  | 0 => rfl
  | j + 1 => by
    have h := chTo_room x j
    rw [chTo]
    by_cases q : bstI x (chTo x j).room (chTo x j).out x.els.length < 0
    · rw [chStep_no q, h]
    · rw [chStep_yes q, List.length_set, h]
/-- Fewer than j chosen after j steps: there is none to choose any more. -/
theorem chTo_stuck (x : Cd) : ∀ j, (chTo x j).out.length < j → bstI x (chTo x j).room (chTo x j).out x.els.length < 0
  | 0, h => absurd h (by omega)
  | j + 1, h => by
    rw [chTo] at h ⊢
    by_cases q : bstI x (chTo x j).room (chTo x j).out x.els.length < 0
    · rw [chStep_no q]
      exact q
    · have h2 : ¬ (chTo x j).out.length < j := fun e => q (chTo_stuck x j e)
      rw [chStep_yes q] at h
      simp at h
      omega
theorem chTo_more (x : Cd) (j : Nat) (h : bstI x (chTo x j).room (chTo x j).out x.els.length < 0) : ∀ m, chTo x (j + m) = chTo x j
  | 0 => rfl
  | m + 1 => by
    have e := chTo_more x j h m
    rw [← Nat.add_assoc, chTo, e, chStep_no h]
theorem chTo_mem (x : Cd) : ∀ j, ∀ i, i ∈ (chTo x j).out → 0 ≤ i ∧ i < (x.els.length : Int)
  | 0, i, h => by cases h
  | j + 1, i, h => by
    rw [chTo] at h
    by_cases q : bstI x (chTo x j).room (chTo x j).out x.els.length < 0
    · rw [chStep_no q] at h
      exact chTo_mem x j i h
    · rw [chStep_yes q] at h
      rcases List.mem_append.1 h with h1 | h1
      · exact chTo_mem x j i h1
      · have e : i = bstI x (chTo x j).room (chTo x j).out x.els.length := by simpa using h1
        have := bstI_le x (chTo x j).room (chTo x j).out x.els.length
        omega
theorem chTo_nodup (x : Cd) : ∀ j, (chTo x j).out.Nodup
  | 0 => List.nodup_nil
  | j + 1 => by
    have h := chTo_nodup x j
    rw [chTo]
    by_cases q : bstI x (chTo x j).room (chTo x j).out x.els.length < 0
    · rw [chStep_no q]
      exact h
    · rw [chStep_yes q]
      have hb := (bstI_good x (chTo x j).room (chTo x j).out x.els.length (by omega)).2
      refine List.nodup_append.2 ⟨h, by simp, fun a ha b hb' => ?_⟩
      have e : b = bstI x (chTo x j).room (chTo x j).out x.els.length := by simpa using hb'
      rw [e]
      exact fun q => hb (q ▸ ha)
end Go.Proofs.YtocjkhfghldnnaaDoor
