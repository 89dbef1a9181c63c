/- Histories of changes, in plain words. -/
import Derived.Test.YthbkfekbpjkhnaaItemO
import Derived.Test.YthbkfekbpjkhnaaHiT
namespace Go.Proofs.Ythbkfekbpjkhnaa
open Go.ChangeShapes Go.WideShapes Go.ChangeAt Go.RowKit Go.Lib Go.Proofs
set_option linter.unusedVariables false

/-- A list has a name. -/
structure NmAt (l : List Im) (i n : Int) : Prop where
  i0 : 0 ≤ i
  i1 : i < (l.length : Int)
  n0 : 0 ≤ n
  n1 : n < ((it l i.toNat).ns.length : Int)
theorem NmAt.same {l m : List Im} {i n : Int} (h : SameS l m) (k : NmAt l i n) : NmAt m i n :=
  ⟨k.i0, by have := k.i1; rw [h.len]; exact this, k.n0, by have h1 := k.n1; have h2 := k.i0; have h3 := k.i1; rw [(h.each i.toNat (by omega)).ns]; exact h1⟩
/-- One more than the place of the last one of the first k changes of a name; 0 if there is none. -/
def laK (hs : List Cg) (i n : Int) : Nat → Nat
  | 0 => 0
  | k + 1 => if (it hs k).item = i ∧ (it hs k).name = n then k + 1 else laK hs i n k
/-- The mark of a name after the first k changes. -/
def mkS (xs : List Im) (hs : List Cg) (i n : Int) (k : Nat) : Int := match laK hs i n k with
  | 0 => it (it xs i.toNat).ms n.toNat
  | p + 1 => (it hs p).mark
/-- A review of a name is open after the first k changes. -/
def opS (hs : List Cg) (i n : Int) (k : Nat) : Bool := match laK hs i n k with
  | 0 => false
  | p + 1 => (it hs p).review
theorem laK_le (hs : List Cg) (i n : Int) : ∀ k, laK hs i n k ≤ k
  | 0 => Nat.le_refl _
  | k + 1 => by
    have := laK_le hs i n k
    rw [laK]
    split <;> omega
theorem laK_hit {hs : List Cg} {i n : Int} {k : Nat} (h : (it hs k).item = i) (h2 : (it hs k).name = n) : laK hs i n (k + 1) = k + 1 := if_pos ⟨h, h2⟩
theorem laK_miss {hs : List Cg} {i n : Int} {k : Nat} (h : ¬ ((it hs k).item = i ∧ (it hs k).name = n)) : laK hs i n (k + 1) = laK hs i n k := if_neg h
theorem laK_congr {hs gs : List Cg} (i n : Int) : ∀ k, (∀ j, j < k → it gs j = it hs j) → laK gs i n k = laK hs i n k
  | 0, _ => rfl
  | k + 1, h => by
    rw [laK, laK, h k (by omega), laK_congr i n k (fun j hj => h j (by omega))]
/-- The last change is one of the name, and none behind it is. -/
theorem laK_at {hs : List Cg} {i n : Int} : ∀ {k p : Nat}, laK hs i n k = p + 1 → p < k ∧ (it hs p).item = i ∧ (it hs p).name = n
  | 0, p, h => by simp [laK] at h
  | k + 1, p, h => by
    rw [laK] at h
    split at h
    · rename_i hq
      obtain rfl : k = p := by omega
      exact ⟨by omega, hq⟩
    · have := laK_at h
      exact ⟨by omega, this.2⟩
theorem laK_skip {hs : List Cg} {i n : Int} : ∀ {k m : Nat}, m ≤ k → (∀ j, m ≤ j → j < k → ¬ ((it hs j).item = i ∧ (it hs j).name = n)) → laK hs i n k = laK hs i n m
  | 0, m, hm, _ => by
    obtain rfl : m = 0 := by omega
    rfl
  | k + 1, m, hm, h => by
    rcases Nat.lt_or_ge k m with g | g
    · obtain rfl : m = k + 1 := by omega
      rfl
    · rw [laK_miss (h k g (by omega))]
      exact laK_skip g (fun j h1 h2 => h j h1 (by omega))
theorem mkS_0 (xs : List Im) (hs : List Cg) (i n : Int) : mkS xs hs i n 0 = it (it xs i.toNat).ms n.toNat := rfl
theorem opS_0 (hs : List Cg) (i n : Int) : opS hs i n 0 = false := rfl
theorem mkS_hit {xs : List Im} {hs : List Cg} {i n : Int} {k : Nat} (h : (it hs k).item = i) (h2 : (it hs k).name = n) : mkS xs hs i n (k + 1) = (it hs k).mark := by
  unfold mkS
  rw [laK_hit h h2]
theorem mkS_miss {xs : List Im} {hs : List Cg} {i n : Int} {k : Nat} (h : ¬ ((it hs k).item = i ∧ (it hs k).name = n)) : mkS xs hs i n (k + 1) = mkS xs hs i n k := by
  unfold mkS
  rw [laK_miss h]
theorem opS_hit {hs : List Cg} {i n : Int} {k : Nat} (h : (it hs k).item = i) (h2 : (it hs k).name = n) : opS hs i n (k + 1) = (it hs k).review := by
  unfold opS
  rw [laK_hit h h2]
theorem opS_miss {hs : List Cg} {i n : Int} {k : Nat} (h : ¬ ((it hs k).item = i ∧ (it hs k).name = n)) : opS hs i n (k + 1) = opS hs i n k := by
  unfold opS
  rw [laK_miss h]
theorem mkS_none {xs : List Im} {hs : List Cg} {i n : Int} {k : Nat} (h : laK hs i n k = 0) : mkS xs hs i n k = it (it xs i.toNat).ms n.toNat := by
  unfold mkS
  rw [h]
theorem mkS_some {xs : List Im} {hs : List Cg} {i n : Int} {k p : Nat} (h : laK hs i n k = p + 1) : mkS xs hs i n k = (it hs p).mark := by
  unfold mkS
  rw [h]
theorem opS_none {hs : List Cg} {i n : Int} {k : Nat} (h : laK hs i n k = 0) : opS hs i n k = false := by
  unfold opS
  rw [h]
theorem opS_some {hs : List Cg} {i n : Int} {k p : Nat} (h : laK hs i n k = p + 1) : opS hs i n k = (it hs p).review := by
  unfold opS
  rw [h]
theorem mkS_congr {xs : List Im} {hs gs : List Cg} (i n : Int) (k : Nat) (h : ∀ j, j < k → it gs j = it hs j) : mkS xs gs i n k = mkS xs hs i n k := by
  have h1 := laK_congr i n k h
  rcases hk : laK hs i n k with _ | p
  · rw [mkS_none (h1.trans hk), mkS_none hk]
  · rw [mkS_some (h1.trans hk), mkS_some hk, h p (laK_at hk).1]
theorem opS_congr {hs gs : List Cg} (i n : Int) (k : Nat) (h : ∀ j, j < k → it gs j = it hs j) : opS gs i n k = opS hs i n k := by
  have h1 := laK_congr i n k h
  rcases hk : laK hs i n k with _ | p
  · rw [opS_none (h1.trans hk), opS_none hk]
  · rw [opS_some (h1.trans hk), opS_some hk, h p (laK_at hk).1]
theorem it_same_ms {xs ys : List Im} (h : SameS xs ys) (k : Nat) : (it ys k).ms = (it xs k).ms := by
  by_cases hk : k < xs.length
  · exact (h.each k hk).ms
  · have hl := h.len
    unfold it
    rw [List.getD_eq_getElem?_getD, List.getD_eq_getElem?_getD, List.getElem?_eq_none (by omega), List.getElem?_eq_none (by omega)]
theorem mkS_same {xs ys : List Im} (h : SameS xs ys) (hs : List Cg) (i n : Int) (k : Nat) : mkS ys hs i n k = mkS xs hs i n k := by
  unfold mkS
  rw [it_same_ms h]
/-- What a change asks of its list and of the changes ahead of it; its tick. -/
structure CgOk (xs : List Im) (hs : List Cg) (k : Nat) : Prop where
  nm : NmAt xs (it hs k).item (it hs k).name
  c1 : 1 ≤ (it hs k).caller
  c2 : (it hs k).caller ≤ 9
  mr : MkOk (it hs k).mark
  rv : (it hs k).review = true → (it hs k).mark = mkS xs hs (it hs k).item (it hs k).name k ∧ opS hs (it hs k).item (it hs k).name k = false
structure TkOk (hs : List Cg) (k : Nat) : Prop where
  t0 : 0 ≤ (it hs k).tick
  t1 : (it hs k).tick ≤ 100000
  up : 0 < k → (it hs (k - 1)).tick ≤ (it hs k).tick
def TkAll (hs : List Cg) : Prop := ∀ k, k < hs.length → TkOk hs k
def CgAll (xs : List Im) (hs : List Cg) (k : Nat) : Prop := ∀ j, j < k → CgOk xs hs j
structure HiG (xs : List Im) (hs : List Cg) : Prop where
  few : hs.length ≤ 60
  tk : TkAll hs
  ok : CgAll xs hs hs.length
/-- A valid list with a history. -/
def HiOk (xs : List Im) (hs : List Cg) : Prop := ListOk xs ∧ HiG xs hs
theorem CgOk.same {xs ys : List Im} {hs : List Cg} {k : Nat} (h : SameS xs ys) (c : CgOk xs hs k) : CgOk ys hs k :=
  ⟨c.nm.same h, c.c1, c.c2, c.mr, fun e => by rw [mkS_same h]; exact c.rv e⟩
theorem HiG.same {xs ys : List Im} {hs : List Cg} (h : SameS xs ys) (c : HiG xs hs) : HiG ys hs :=
  ⟨c.few, c.tk, fun j hj => (c.ok j hj).same h⟩
theorem listOk_same' {xs ys : List Im} (h : SameS xs ys) (k : ListOk xs) : ListOk ys :=
  ⟨by have := h.len; have := k.len; omega, fun i hi => by have hk := k.each i (by have := h.len; omega); have he := h.each i (by have := h.len; omega); rw [he.ns, he.ms]; exact hk⟩
theorem HiOk.same {xs ys : List Im} {hs : List Cg} (h : SameS xs ys) (c : HiOk xs hs) : HiOk ys hs := ⟨listOk_same' h c.1, c.2.same h⟩
theorem hiOk_same {xs ys : List Im} (h : SameS xs ys) (hs : List Cg) : HiOk ys hs ↔ HiOk xs hs := ⟨fun c => c.same h.symm, fun c => c.same h⟩
/-- The first changes of others are as theirs. -/
theorem CgOk.congr {xs : List Im} {hs gs : List Cg} {k : Nat} (h : ∀ j, j ≤ k → it gs j = it hs j) (c : CgOk xs hs k) : CgOk xs gs k := by
  have hk := h k (Nat.le_refl _)
  exact ⟨by rw [hk]; exact c.nm, by rw [hk]; exact c.c1, by rw [hk]; exact c.c2, by rw [hk]; exact c.mr, fun e => by
    rw [hk] at e ⊢
    rw [mkS_congr _ _ k (fun j hj => h j (by omega)), opS_congr _ _ k (fun j hj => h j (by omega))]
    exact c.rv e⟩
theorem TkOk.congr {hs gs : List Cg} {k : Nat} (h : ∀ j, j ≤ k → it gs j = it hs j) (c : TkOk hs k) : TkOk gs k := by
  have hk := h k (Nat.le_refl _)
  exact ⟨by rw [hk]; exact c.t0, by rw [hk]; exact c.t1, fun e => by rw [hk, h (k - 1) (by omega)]; exact c.up e⟩
/-- Ticks never fall. -/
theorem TkAll.le {hs : List Cg} (h : TkAll hs) {i j : Nat} (hij : i ≤ j) (hj : j < hs.length) : (it hs i).tick ≤ (it hs j).tick := by
  induction j with
  | zero =>
    obtain rfl : i = 0 := by omega
    exact Int.le_refl _
  | succ j ih =>
    rcases Nat.lt_or_ge j i with g | g
    · obtain rfl : i = j + 1 := by omega
      exact Int.le_refl _
    · have h1 := ih g (by omega)
      have h2 := (h (j + 1) hj).up (by omega)
      rw [show j + 1 - 1 = j from rfl] at h2
      omega
/-- How many changes there are up to a tick, as they are counted until one is behind it. -/
def cuT (hs : List Cg) (t : Int) : Nat → Nat
  | 0 => 0
  | k + 1 => if cuT hs t k = k ∧ (it hs k).tick ≤ t then k + 1 else cuT hs t k
theorem cuT_le (hs : List Cg) (t : Int) : ∀ k, cuT hs t k ≤ k
  | 0 => Nat.le_refl _
  | k + 1 => by
    have := cuT_le hs t k
    rw [cuT]
    split <;> omega
theorem cuT_in {hs : List Cg} {t : Int} : ∀ {k j : Nat}, j < cuT hs t k → (it hs j).tick ≤ t
  | 0, j, h => absurd h (by simp [cuT])
  | k + 1, j, h => by
    rw [cuT] at h
    split at h
    · rename_i hq
      rcases Nat.lt_or_ge j k with g | g
      · exact cuT_in (k := k) (by omega)
      · obtain rfl : j = k := by omega
        exact hq.2
    · exact cuT_in h
theorem cuT_out {hs : List Cg} {t : Int} : ∀ {k : Nat}, cuT hs t k < k → t < (it hs (cuT hs t k)).tick
  | 0, h => absurd h (by omega)
  | k + 1, h => by
    have hl := cuT_le hs t k
    rw [cuT] at h ⊢
    split at h
    · omega
    · rename_i hq
      rw [if_neg hq]
      rcases Nat.lt_or_ge (cuT hs t k) k with g | g
      · exact cuT_out g
      · have e : cuT hs t k = k := by omega
        rw [e]
        exact Int.not_le.1 (fun q => hq ⟨e, q⟩)
/-- Where ticks never fall, a change is among them exactly if its tick is no greater. -/
theorem cuT_iff {hs : List Cg} (h : TkAll hs) (t : Int) {j : Nat} (hj : j < hs.length) : (it hs j).tick ≤ t ↔ j < cuT hs t hs.length := by
  refine ⟨fun q => ?_, fun q => cuT_in q⟩
  rcases Nat.lt_or_ge j (cuT hs t hs.length) with g | g
  · exact g
  · have h1 := cuT_out (hs := hs) (t := t) (k := hs.length) (by omega)
    have h2 := h.le g hj
    omega
theorem cuT_all {hs : List Cg} (h : TkAll hs) : cuT hs 100000 hs.length = hs.length := by
  have h0 := cuT_le hs 100000 hs.length
  rcases Nat.lt_or_ge (cuT hs 100000 hs.length) hs.length with g | g
  · have h1 := cuT_out g
    have h2 := (h _ g).t1
    omega
  · omega
end Go.Proofs.Ythbkfekbpjkhnaa
