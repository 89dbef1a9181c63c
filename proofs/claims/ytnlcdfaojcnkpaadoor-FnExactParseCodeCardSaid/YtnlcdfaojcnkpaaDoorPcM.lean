/- Digits and splitting: plain facts on lists of bytes. -/
import Derived.Test.YtnlcdfaojcnkpaaDoorSplit
import Derived.Test.YtnlcdfaojcnkpaaDoorRead
import Derived.Laws.Closers25b
namespace Go.Proofs.YtnlcdfaojcnkpaaDoor
open Go.ChangeShapes Go.WideShapes Go.ChangeAt Go.RowKit Go.PlainAid
set_option linter.unusedVariables false

def Dig (l : List UInt8) : Prop := ∀ x ∈ l, 48 ≤ x.toNat ∧ x.toNat ≤ 57
theorem dg_toNat (v : Int) (h0 : 0 ≤ v) (h : v ≤ 255) : ((dg v).toNat : Int) = v := by
  unfold dg
  rw [UInt8.toNat_ofNat']
  omega
theorem dec_small (d : Nat) (h : d < 10) : Lib.decDigits d = [dg (48 + (d : Int))] := by
  rw [Lib.decDigits, dif_pos h]
  unfold dg
  rw [show (48 + (d : Int)).toNat = 48 + d by omega]
theorem dec_big (a : Nat) (h : 10 ≤ a) : Lib.decDigits a = Lib.decDigits (a / 10) ++ [dg (48 + (a : Int) % 10)] := by
  conv => lhs; rw [Lib.decDigits, dif_neg (by omega)]
  unfold dg
  rw [show (48 + (a : Int) % 10).toNat = 48 + a % 10 by omega]
theorem dec_ind (P : Nat → Prop) (h1 : ∀ d, d < 10 → P d) (h2 : ∀ a, 10 ≤ a → P (a / 10) → P a) : ∀ k a, a ≤ k → P a := by
  intro k
  induction k with
  | zero => exact fun a h => h1 a (by omega)
  | succ k ih =>
    intro a h
    rcases Nat.lt_or_ge a 10 with h10 | h10
    · exact h1 a h10
    · exact h2 a h10 (ih _ (by omega))
theorem dig_dec (a : Nat) : Dig (Lib.decDigits a) := by
  refine dec_ind (fun a => Dig (Lib.decDigits a)) (fun d hd => ?_) (fun a ha ih => ?_) a a (Nat.le_refl _)
  · rw [dec_small d hd]
    intro x hx
    rw [List.mem_singleton] at hx
    have := dg_toNat (48 + (d : Int)) (by omega) (by omega)
    rw [hx]
    omega
  · rw [dec_big a ha]
    intro x hx
    rcases List.mem_append.1 hx with hx | hx
    · exact ih x hx
    · rw [List.mem_singleton] at hx
      have := dg_toNat (48 + (a : Int) % 10) (by omega) (by omega)
      rw [hx]
      omega
theorem readAux_app : ∀ (l r : List UInt8) (n : Int), Dig l → readAux (l ++ r) n = readAux r (readAux l n)
  | [], _, _, _ => rfl
  | x :: l, r, n, h => by
    have hx := h x (by simp)
    show (if _ then _ else _) = readAux r (if _ then _ else _)
    rw [if_neg (by omega), if_neg (by omega)]
    exact readAux_app l r _ (fun y hy => h y (by simp [hy]))
theorem readAux_one (v n : Int) (h0 : 0 ≤ v) (h : v ≤ 9) : readAux [dg (48 + v)] n = 10 * n + v := by
  have := dg_toNat (48 + v) (by omega) (by omega)
  show (if _ then _ else _) = _
  rw [this, if_neg (by omega)]
  show 10 * n + (48 + v - 48) = _
  omega
theorem readAux_dec (a : Nat) : readAux (Lib.decDigits a) 0 = a := by
  refine dec_ind (fun a => readAux (Lib.decDigits a) 0 = a) (fun d hd => ?_) (fun a ha ih => ?_) a a (Nat.le_refl _)
  · rw [dec_small d hd, readAux_one _ _ (by omega) (by omega)]
    omega
  · rw [dec_big a ha, readAux_app _ _ _ (dig_dec _), ih, readAux_one _ _ (by omega) (by omega)]
    omega
theorem dec_head (a : Nat) (ha : 1 ≤ a) : ∃ x r, Lib.decDigits a = x :: r ∧ x.toNat ≠ 48 := by
  refine dec_ind (fun a => 1 ≤ a → ∃ x r, Lib.decDigits a = x :: r ∧ x.toNat ≠ 48) (fun d hd h1 => ?_) (fun a h10 ih _ => ?_) a a (Nat.le_refl _) ha
  · have := dg_toNat (48 + (d : Int)) (by omega) (by omega)
    exact ⟨_, [], dec_small d hd, by omega⟩
  · obtain ⟨x, r, hx, h48⟩ := ih (by omega)
    exact ⟨x, r ++ [dg (48 + (a : Int) % 10)], by rw [dec_big a h10, hx]; rfl, h48⟩
theorem bt_cons (x : UInt8) (r : List UInt8) : bt ⟨(x :: r).toArray⟩ 0 = (x.toNat : Int) := by
  unfold bt
  rw [dif_pos (by show 0 < (x :: r).toArray.size; simp)]
  rfl
theorem readB_dec (a : Nat) (ha : a ≤ 99999) : readB ⟨(Lib.decDigits a).toArray⟩ = a := by
  have hlen := dec_len 5 a (by omega)
  have hsz : (⟨(Lib.decDigits a).toArray⟩ : ByteArray).size = (Lib.decDigits a).length := by show (Lib.decDigits a).toArray.size = _; simp
  have hpos : 1 ≤ (Lib.decDigits a).length := by
    rw [Lib.decDigits]
    split <;> simp
  unfold readB
  rw [hsz, if_neg (by omega), if_neg]
  · exact readAux_dec a
  · rintro ⟨h1, h2⟩
    rcases Nat.eq_zero_or_pos a with h0 | h0
    · subst h0
      rw [dec_small 0 (by omega)] at h2
      simp at h2
    · obtain ⟨x, r, hx, h48⟩ := dec_head a h0
      rw [hx, bt_cons] at h1
      omega
theorem split_none (c : Int) : ∀ (l cur : List UInt8), (∀ x ∈ l, (x.toNat : Int) ≠ c) → splitAux c cur l = [cur ++ l]
  | [], cur, _ => by simp [splitAux]
  | x :: l, cur, h => by
    have hx := h x (by simp)
    show (if _ then _ else _) = _
    rw [if_neg hx, split_none c l (cur ++ [x]) (fun y hy => h y (by simp [hy]))]
    simp
theorem split_once (c : Int) (d : UInt8) (hd : (d.toNat : Int) = c) : ∀ (l cur r : List UInt8), (∀ x ∈ l, (x.toNat : Int) ≠ c) → splitAux c cur (l ++ d :: r) = (cur ++ l) :: splitAux c [] r
  | [], cur, r, _ => by
    show (if _ then _ else _) = _
    rw [if_pos hd]
    simp
  | x :: l, cur, r, h => by
    have hx := h x (by simp)
    show (if _ then _ else _) = _
    rw [if_neg hx]
    have := split_once c d hd l (cur ++ [x]) r (fun y hy => h y (by simp [hy]))
    refine this.trans ?_
    simp
theorem split_len (c : Int) : ∀ (l cur p : List UInt8), p ∈ splitAux c cur l → p.length ≤ cur.length + l.length
  | [], cur, p, h => by
    simp [splitAux] at h
    simp [h]
  | x :: l, cur, p, h => by
    have h' : p ∈ (if (x.toNat : Int) = c then cur :: splitAux c [] l else splitAux c (cur ++ [x]) l) := h
    split at h'
    · rcases List.mem_cons.1 h' with h' | h'
      · rw [h']; omega
      · have := split_len c l [] p h'
        simp at this ⊢
        omega
    · have := split_len c l (cur ++ [x]) p h'
      simp at this ⊢
      omega
theorem split_pos (c : Int) : ∀ (l cur : List UInt8), 1 ≤ (splitAux c cur l).length
  | [], cur => by simp [splitAux]
  | x :: l, cur => by
    show 1 ≤ (if (x.toNat : Int) = c then cur :: splitAux c [] l else splitAux c (cur ++ [x]) l).length
    split
    · simp
    · exact split_pos c l _
theorem bt_list (s : ByteArray) (k : Nat) : bt s k = ((s.data.toList[k]?.map fun x => (x.toNat : Int)).getD 0) := by
  unfold bt
  split
  · rename_i h
    have h' : k < s.data.toList.length := h
    rw [List.getElem?_eq_getElem h']
    rfl
  · rename_i h
    have h' : s.data.toList.length ≤ k := by have : s.data.toList.length = s.size := rfl; omega
    rw [List.getElem?_eq_none h']
    rfl
end Go.Proofs.YtnlcdfaojcnkpaaDoor
