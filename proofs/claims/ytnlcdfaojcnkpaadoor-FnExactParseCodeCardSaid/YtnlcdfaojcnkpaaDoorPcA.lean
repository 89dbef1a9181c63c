/- The lines of a code's text, and what their words read as. -/
import Derived.Test.YtnlcdfaojcnkpaaDoorCdT
import Derived.Test.YtnlcdfaojcnkpaaDoorPcM
import Derived.Lib.AtoiTie
import Derived.Lib.AtoiAllCases
import Derived.Lib.SplitLaws
namespace Go.Proofs.YtnlcdfaojcnkpaaDoor
open Go.ChangeShapes Go.WideShapes Go.ChangeAt Go.RowKit Go.PlainAid Go.Sort
set_option linter.unusedVariables false

theorem mem_elsI {α : Type} [Inhabited α] {xs : List α} {e : α} (h : e ∈ xs) : ∃ j, j < xs.length ∧ it xs j = e := by
  obtain ⟨j, hj⟩ := List.mem_iff_getElem?.1 h
  have hl := (List.getElem?_eq_some_iff.1 hj).1
  rw [it_get xs j hl] at hj
  exact ⟨j, hl, Option.some.inj hj⟩
/-- A word and numbers behind it, each behind a blank. -/
def lnL (word : List UInt8) : List Int → List UInt8
  | [] => word
  | v :: r => word ++ 32 :: lnL (Lib.decDigits v.toNat) r
def NoB (c : Int) (l : List UInt8) : Prop := ∀ x ∈ l, (x.toNat : Int) ≠ c
theorem dec_noB (a : Nat) (c : Int) (h : c < 48) : NoB c (Lib.decDigits a) := fun x hx e => by
  have := (dig_dec a x hx).1
  omega
theorem lnL_noB (c : Int) (h : c < 48) (h32 : c ≠ 32) : ∀ (l : List Int) (word : List UInt8), NoB c word → NoB c (lnL word l)
  | [], word, hw => hw
  | v :: r, word, hw => fun x hx => by
    rw [lnL, List.mem_append, List.mem_cons] at hx
    rcases hx with hx | rfl | hx
    · exact hw x hx
    · exact fun e => h32 (by rw [← e]; rfl)
    · exact lnL_noB c h h32 r _ (dec_noB _ c h) x hx
theorem split_lnL : ∀ (l : List Int) (word : List UInt8), NoB 32 word → splitL 32 (lnL word l) = word :: l.map (fun v => Lib.decDigits v.toNat)
  | [], word, hw => by
    show splitAux 32 [] word = _
    rw [split_none 32 word [] hw]
    rfl
  | v :: r, word, hw => by
    show splitAux 32 [] (word ++ 32 :: lnL (Lib.decDigits v.toNat) r) = _
    rw [split_once 32 32 rfl word [] _ hw]
    have := split_lnL r (Lib.decDigits v.toNat) (dec_noB _ 32 (by decide))
    unfold splitL at this
    rw [this]
    rfl
theorem split_lines : ∀ (ls : List (List UInt8)), (∀ l ∈ ls, NoB 10 l) → splitL 10 (ls.flatMap (fun l => l ++ [10])) = ls ++ [[]]
  | [], _ => rfl
  | l :: r, h => by
    show splitAux 10 [] ((l ++ [10]) ++ r.flatMap _) = _
    rw [List.append_assoc]
    show splitAux 10 [] (l ++ 10 :: r.flatMap _) = _
    rw [split_once 10 10 rfl l [] _ (h l (List.mem_cons_self ..))]
    have := split_lines r (fun l hl => h l (List.mem_cons_of_mem _ hl))
    unfold splitL at this
    rw [this]
    rfl
/-- The bytes of a line. -/
theorem lnTo_snoc (w : List UInt8) (l : List Int) (v : Int) : lnL w (l ++ [v]) = lnL w l ++ 32 :: Lib.decDigits v.toNat := by
  induction l generalizing w with
  | nil => rfl
  | cons a r ih =>
    show w ++ 32 :: lnL _ (r ++ [v]) = (w ++ 32 :: lnL _ r) ++ _
    rw [ih]
    simp
theorem lnTo_list (word : ByteArray) (l : List Int) : ∀ k, k ≤ l.length → (lnTo word l k).data.toList = lnL word.data.toList (l.take k)
  | 0, _ => rfl
  | k + 1, hk => by
    rw [lnTo, ByteArray.data_append, ByteArray.data_append, Array.toList_append, Array.toList_append, lnTo_list word l k (by omega)]
    have hg : l.take (k + 1) = l.take k ++ [it l k] := by
      rw [List.take_add_one, it_get l k (by omega)]
      rfl
    rw [hg, lnTo_snoc]
    rfl
theorem lnT_list (word : ByteArray) (l : List Int) : (lnT word l).data.toList = lnL word.data.toList l ++ [10] := by
  rw [lnT, ByteArray.data_append, Array.toList_append, lnTo_list word l l.length (Nat.le_refl _), List.take_length]
/-- The lines of a code's text. -/
def elLn (e : El) : List UInt8 := lnL e.name.data.toList [e.fam, e.lev, e.base]
def codeB : List UInt8 := [99, 111, 100, 101]
def limB : List UInt8 := [108, 105, 109, 105, 116, 115]
def lnsOf (x : Cd) : List (List UInt8) := lnL codeB [x.rep, x.bon, x.kee, x.fal] :: lnL limB x.lims :: x.els.map elLn
theorem txTo_list (x : Cd) : ∀ k, k ≤ x.els.length → (txTo x k).data.toList = (lnL codeB [x.rep, x.bon, x.kee, x.fal] :: lnL limB x.lims :: (x.els.take k).map elLn).flatMap (fun l => l ++ [10])
  | 0, _ => by
    rw [txTo, ByteArray.data_append, Array.toList_append, lnT_list, lnT_list]
    simp [List.flatMap_cons, codeB, limB]
  | k + 1, hk => by
    rw [txTo, ByteArray.data_append, Array.toList_append, txTo_list x k (by omega), lnT_list]
    have hg : x.els.take (k + 1) = x.els.take k ++ [it x.els k] := by
      rw [List.take_add_one, it_get x.els k (by omega)]
      rfl
    rw [hg]
    simp [List.flatMap_cons, List.flatMap_append, elLn]
theorem txt_list (x : Cd) : (txt x).data.toList = (lnsOf x).flatMap (fun l => l ++ [10]) := by
  rw [txt, txTo_list x _ (Nat.le_refl _), List.take_length]
  rfl
theorem name_noB {s : ByteArray} (h : NameOk s) (c : Int) (hc : c < 48) : NoB c s.data.toList := fun x hx e => by
  obtain ⟨i, hi, hx⟩ := List.mem_iff_getElem.1 hx
  have hi' : i < s.size := hi
  have hb := h.byte i hi'
  rw [bt_list, List.getElem?_eq_getElem hi, hx] at hb
  simp only [Option.map_some, Option.getD_some] at hb
  unfold LetOk at hb
  omega
theorem lns_no10 {x : Cd} (h : CdOk x) : ∀ l ∈ lnsOf x, NoB 10 l := fun l hl => by
  rcases List.mem_cons.1 hl with rfl | hl
  · exact lnL_noB 10 (by decide) (by decide) _ _ (by unfold NoB codeB; decide)
  · rcases List.mem_cons.1 hl with rfl | hl
    · exact lnL_noB 10 (by decide) (by decide) _ _ (by unfold NoB limB; decide)
    · obtain ⟨e, he, rfl⟩ := List.mem_map.1 hl
      obtain ⟨j, hj, rfl⟩ := mem_elsI he
      exact lnL_noB 10 (by decide) (by decide) _ _ (name_noB (h.els.el j hj).name 10 (by decide))
/-- The text of a code is cut into its lines and the empty string. -/
theorem txt_split {x : Cd} (h : CdOk x) : splitL 10 (txt x).data.toList = lnsOf x ++ [[]] := by
  rw [txt_list]
  exact split_lines _ (lns_no10 h)
end Go.Proofs.YtnlcdfaojcnkpaaDoor
