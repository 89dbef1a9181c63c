/- What reading the text of points gives: plain facts on lists of bytes. -/
import Derived.Test.YtngbkflfobcgaaaDoorRead
import Derived.Test.YtngbkflfobcgaaaDoorText
import Derived.Laws.Closers25b
namespace Go.Proofs.YtngbkflfobcgaaaDoor
open Go.ChangeShapes Go.WideShapes Go.ChangeAt Go.RowKit Go.PlainAid
set_option linter.unusedVariables false

def Dig (l : List UInt8) : Prop := ∀ x ∈ l, 48 ≤ x.toNat ∧ x.toNat ≤ 57
theorem dg_toNat (v : Int) (h0 : 0 ≤ v) (h : v ≤ 255) : ((dg v).toNat : Int) = v := by
  unfold dg
  rw [UInt8.toNat_ofNat']
  omega
theorem dec_small (d : Nat) (h : d < 10) : Lib.decDigits d = [dg (48 + (d : Int))] := by
  rw [Lib.decDigits, dif_pos h]
  unfold dg
  rw [show (48 + (d : Int)).toNat = 48 + d by omega]
theorem dec_big (a : Nat) (h : 10 ≤ a) : Lib.decDigits a = Lib.decDigits (a / 10) ++ [dg (48 + (a : Int) % 10)] := by
  conv => lhs; rw [Lib.decDigits, dif_neg (by omega)]
  unfold dg
  rw [show (48 + (a : Int) % 10).toNat = 48 + a % 10 by omega]
theorem dec_ind (P : Nat → Prop) (h1 : ∀ d, d < 10 → P d) (h2 : ∀ a, 10 ≤ a → P (a / 10) → P a) : ∀ k a, a ≤ k → P a := by
  intro k
  induction k with
  | zero => exact fun a h => h1 a (by omega)
  | succ k ih =>
    intro a h
    rcases Nat.lt_or_ge a 10 with h10 | h10
    · exact h1 a h10
    · exact h2 a h10 (ih _ (by omega))
theorem dig_dec (a : Nat) : Dig (Lib.decDigits a) := by
  refine dec_ind (fun a => Dig (Lib.decDigits a)) (fun d hd => ?_) (fun a ha ih => ?_) a a (Nat.le_refl _)
  · rw [dec_small d hd]
    intro x hx
    rw [List.mem_singleton] at hx
    have := dg_toNat (48 + (d : Int)) (by omega) (by omega)
    rw [hx]
    omega
  · rw [dec_big a ha]
    intro x hx
    rcases List.mem_append.1 hx with hx | hx
    · exact ih x hx
    · rw [List.mem_singleton] at hx
      have := dg_toNat (48 + (a : Int) % 10) (by omega) (by omega)
      rw [hx]
      omega
theorem readAux_app : ∀ (l r : List UInt8) (n : Int), Dig l → readAux (l ++ r) n = readAux r (readAux l n)
  | [], _, _, _ => rfl
  | x :: l, r, n, h => by
    have hx := h x (by simp)
    show (if _ then _ else _) = readAux r (if _ then _ else _)
    rw [if_neg (by omega), if_neg (by omega)]
    exact readAux_app l r _ (fun y hy => h y (by simp [hy]))
theorem readAux_one (v n : Int) (h0 : 0 ≤ v) (h : v ≤ 9) : readAux [dg (48 + v)] n = 10 * n + v := by
  have := dg_toNat (48 + v) (by omega) (by omega)
  show (if _ then _ else _) = _
  rw [this, if_neg (by omega)]
  show 10 * n + (48 + v - 48) = _
  omega
theorem readAux_dec (a : Nat) : readAux (Lib.decDigits a) 0 = a := by
  refine dec_ind (fun a => readAux (Lib.decDigits a) 0 = a) (fun d hd => ?_) (fun a ha ih => ?_) a a (Nat.le_refl _)
  · rw [dec_small d hd, readAux_one _ _ (by omega) (by omega)]
    omega
  · rw [dec_big a ha, readAux_app _ _ _ (dig_dec _), ih, readAux_one _ _ (by omega) (by omega)]
    omega
theorem dec_head (a : Nat) (ha : 1 ≤ a) : ∃ x r, Lib.decDigits a = x :: r ∧ x.toNat ≠ 48 := by
  refine dec_ind (fun a => 1 ≤ a → ∃ x r, Lib.decDigits a = x :: r ∧ x.toNat ≠ 48) (fun d hd h1 => ?_) (fun a h10 ih _ => ?_) a a (Nat.le_refl _) ha
  · have := dg_toNat (48 + (d : Int)) (by omega) (by omega)
    exact ⟨_, [], dec_small d hd, by omega⟩
  · obtain ⟨x, r, hx, h48⟩ := ih (by omega)
    exact ⟨x, r ++ [dg (48 + (a : Int) % 10)], by rw [dec_big a h10, hx]; rfl, h48⟩
theorem bt_cons (x : UInt8) (r : List UInt8) : bt ⟨(x :: r).toArray⟩ 0 = (x.toNat : Int) := by
  unfold bt
  rw [dif_pos (by show 0 < (x :: r).toArray.size; simp)]
  rfl
theorem readB_dec (a : Nat) (ha : a ≤ 99999) : readB ⟨(Lib.decDigits a).toArray⟩ = a := by
  have hlen := dec_len 5 a (by omega)
  have hsz : (⟨(Lib.decDigits a).toArray⟩ : ByteArray).size = (Lib.decDigits a).length := by show (Lib.decDigits a).toArray.size = _; simp
  have hpos : 1 ≤ (Lib.decDigits a).length := by
    rw [Lib.decDigits]
    split <;> simp
  unfold readB
  rw [hsz, if_neg (by omega), if_neg]
  · exact readAux_dec a
  · rintro ⟨h1, h2⟩
    rcases Nat.eq_zero_or_pos a with h0 | h0
    · subst h0
      rw [dec_small 0 (by omega)] at h2
      simp at h2
    · obtain ⟨x, r, hx, h48⟩ := dec_head a h0
      rw [hx, bt_cons] at h1
      omega

theorem split_none (c : Int) : ∀ (l cur : List UInt8), (∀ x ∈ l, (x.toNat : Int) ≠ c) → splitAux c cur l = [cur ++ l]
  | [], cur, _ => by simp [splitAux]
  | x :: l, cur, h => by
    have hx := h x (by simp)
    show (if _ then _ else _) = _
    rw [if_neg hx, split_none c l (cur ++ [x]) (fun y hy => h y (by simp [hy]))]
    simp
theorem split_once (c : Int) (d : UInt8) (hd : (d.toNat : Int) = c) : ∀ (l cur r : List UInt8), (∀ x ∈ l, (x.toNat : Int) ≠ c) → splitAux c cur (l ++ d :: r) = (cur ++ l) :: splitAux c [] r
  | [], cur, r, _ => by
    show (if _ then _ else _) = _
    rw [if_pos hd]
    simp
  | x :: l, cur, r, h => by
    have hx := h x (by simp)
    show (if _ then _ else _) = _
    rw [if_neg hx]
    have := split_once c d hd l (cur ++ [x]) r (fun y hy => h y (by simp [hy]))
    refine this.trans ?_
    simp
theorem split_len (c : Int) : ∀ (l cur p : List UInt8), p ∈ splitAux c cur l → p.length ≤ cur.length + l.length
  | [], cur, p, h => by
    simp [splitAux] at h
    simp [h]
  | x :: l, cur, p, h => by
    have h' : p ∈ (if (x.toNat : Int) = c then cur :: splitAux c [] l else splitAux c (cur ++ [x]) l) := h
    split at h'
    · rcases List.mem_cons.1 h' with h' | h'
      · rw [h']; omega
      · have := split_len c l [] p h'
        simp at this ⊢
        omega
    · have := split_len c l (cur ++ [x]) p h'
      simp at this ⊢
      omega
theorem split_pos (c : Int) : ∀ (l cur : List UInt8), 1 ≤ (splitAux c cur l).length
  | [], cur => by simp [splitAux]
  | x :: l, cur => by
    show 1 ≤ (if (x.toNat : Int) = c then cur :: splitAux c [] l else splitAux c (cur ++ [x]) l).length
    split
    · simp
    · exact split_pos c l _

/-- The bytes of the text of points that are not negative. -/
theorem PT_bytes (m : Int) (h0 : 0 ≤ m) : (PT m).data.toList = Lib.decDigits (m / 100).toNat ++ (46 : UInt8) :: [dg (48 + m / 10 % 10), dg (48 + m % 10)] := by
  have e1 : Lib.decDigits (m / 10 % 10).toNat = [dg (48 + m / 10 % 10)] := by
    rw [dec_small _ (by omega)]
    congr 2
    omega
  have e2 : Lib.decDigits (m % 10).toNat = [dg (48 + m % 10)] := by
    rw [dec_small _ (by omega)]
    congr 2
    omega
  unfold PT DI
  simp [ByteArray.data_append, e1, e2]
theorem PT_split (m : Int) (h0 : 0 ≤ m) : splitL 46 (PT m).data.toList = [Lib.decDigits (m / 100).toNat, [dg (48 + m / 10 % 10), dg (48 + m % 10)]] := by
  have d1 := dg_toNat (48 + m / 10 % 10) (by omega) (by omega)
  have d2 := dg_toNat (48 + m % 10) (by omega) (by omega)
  rw [PT_bytes m h0]
  unfold splitL
  rw [split_once 46 46 rfl, split_none]
  · rfl
  · intro x hx
    simp only [List.mem_cons, List.not_mem_nil, or_false] at hx
    rcases hx with rfl | rfl <;> omega
  · intro x hx
    have := dig_dec _ x hx
    omega
theorem PX_neg (n : Int) (h : n < 0) : PX n = ⟨#[45]⟩ ++ PT (-n) := by unfold PX; rw [if_pos h]
theorem PX_pos (n : Int) (h : ¬ n < 0) : PX n = PT n := by unfold PX; rw [if_neg h]
theorem bt_list (s : ByteArray) (k : Nat) : bt s k = ((s.data.toList[k]?.map fun x => (x.toNat : Int)).getD 0) := by
  unfold bt
  split
  · rename_i h
    have h' : k < s.data.toList.length := h
    rw [List.getElem?_eq_getElem h']
    rfl
  · rename_i h
    have h' : s.data.toList.length ≤ k := by have : s.data.toList.length = s.size := rfl; omega
    rw [List.getElem?_eq_none h']
    rfl
/-- The first byte of a text without a sign is a digit. -/
theorem PT_first (m : Int) (h0 : 0 ≤ m) : bt (PT m) 0 ≠ 45 := by
  rw [bt_list, PT_bytes m h0]
  rcases hd : Lib.decDigits (m / 100).toNat with _ | ⟨x, r⟩
  · simp
  · have := dig_dec (m / 100).toNat x (by rw [hd]; simp)
    simp
    omega
theorem PX_first (n : Int) (h : n < 0) : bt (PX n) 0 = 45 ∧ (PX n).extract 1 (PX n).size = PT (-n) := by
  rw [PX_neg n h]
  constructor
  · rw [bt_list]
    simp [ByteArray.data_append]
  · apply ByteArray.ext
    apply Array.ext'
    rw [Lib.extract_data]
    have : (⟨#[45]⟩ ++ PT (-n) : ByteArray).size = 1 + (PT (-n)).size := by rw [ByteArray.size_append]; rfl
    rw [this]
    simp [ByteArray.data_append]
    exact List.take_of_length_le (Nat.le_refl (PT (-n)).data.toList.length)
end Go.Proofs.YtngbkflfobcgaaaDoor
