/- Splitting a string at a byte in the model. -/
import Derived.Test.YtnlcdfaojcnkpaaDoorBe
import Derived.Test.YtnlcdfaojcnkpaaDoorCdO
import Derived.Test.YtnlcdfaojcnkpaaDoorBa
import Derived.Test.YtnlcdfaojcnkpaaDoorNum
import Derived.LoopTactic
import Derived.PlainAid
import Derived.Deep.AppendLies
import Derived.Deep.QuietTactic
import Derived.BigQuiet
namespace Go.Proofs.YtnlcdfaojcnkpaaDoor
open Go.ChangeShapes Go.WideShapes Go.ChangeAt Go.RowKit Go.PlainAid
set_option linter.unusedVariables false

/-- The pieces of a list at a byte, behind a beginning. -/
def splitAux (c : Int) : List UInt8 → List UInt8 → List (List UInt8)
  | cur, [] => [cur]
  | cur, x :: r => if (x.toNat : Int) = c then cur :: splitAux c [] r else splitAux c (cur ++ [x]) r
def splitL (c : Int) (l : List UInt8) : List (List UInt8) := splitAux c [] l
def strV (l : List UInt8) : Value := .string ⟨l.toArray⟩

def seg (s : ByteArray) (a b : Nat) : List UInt8 := (s.data.toList.take b).drop a
theorem seg_extract (s : ByteArray) (a b : Nat) : s.extract a b = ⟨(seg s a b).toArray⟩ := by
  apply ByteArray.ext
  simp only [ByteArray.data_extract, seg]
  apply Array.ext'
  rw [Array.toList_extract]
  simp [List.extract, List.drop_take]
theorem seg_self (s : ByteArray) (a : Nat) : seg s a a = [] := by
  unfold seg
  rw [List.drop_eq_nil_iff]
  simp
  omega
theorem seg_succ (s : ByteArray) (a i : Nat) (ha : a ≤ i) (h : i < s.size) : seg s a (i + 1) = seg s a i ++ [s[i]] := by
  unfold seg
  have h' : i < s.data.toList.length := h
  rw [List.take_succ_eq_append_getElem h', List.drop_append_of_le_length (by simp; omega)]
  rfl
theorem drop_cons (s : ByteArray) (i : Nat) (h : i < s.size) : s.data.toList.drop i = s[i] :: s.data.toList.drop (i + 1) := by
  have h' : i < s.data.toList.length := h
  exact List.drop_eq_getElem_cons h'
theorem seg_full (s : ByteArray) (a : Nat) : seg s a s.size = s.data.toList.drop a := by
  unfold seg
  rw [List.take_of_length_le (show s.data.toList.length ≤ s.size from Nat.le_refl _)]

theorem split_hit (s : ByteArray) (c : Int) (a i : Nat) (h : i < s.size) (hx : bt s i = c) : splitAux c (seg s a i) (s.data.toList.drop i) = seg s a i :: splitAux c (seg s (i + 1) (i + 1)) (s.data.toList.drop (i + 1)) := by
  rw [drop_cons s i h, seg_self]
  have : (s[i].toNat : Int) = c := by rw [get_bt]; exact hx
  simp [splitAux, this]
theorem split_miss (s : ByteArray) (c : Int) (a i : Nat) (ha : a ≤ i) (h : i < s.size) (hx : bt s i ≠ c) : splitAux c (seg s a i) (s.data.toList.drop i) = splitAux c (seg s a (i + 1)) (s.data.toList.drop (i + 1)) := by
  rw [drop_cons s i h, seg_succ s a i ha h]
  have : ¬ (s[i].toNat : Int) = c := by rw [get_bt]; exact hx
  simp [splitAux, this]

theorem strs_oneCell (ls : List (List UInt8)) : ∀ u ∈ ls.map strV, u.oneCell' = true := by
  intro u hu
  obtain ⟨l, _, rfl⟩ := List.mem_map.1 hu
  rfl

theorem piece_map (ps : List (List UInt8)) (s : ByteArray) (a b : Nat) : ps.map strV ++ [.string (s.extract a b)] = (ps ++ [seg s a b]).map strV := by
  simp [strV, seg_extract]
theorem piece_len (ps : List (List UInt8)) (l : List UInt8) : (ps ++ [l]).length = ps.length + 1 := by simp

structure SpRel (s : ByteArray) (c : Int) (w : World) (v f i : Value) (wr : World) (ps : List (List UInt8)) (a k : Nat) : Prop where
  ak : a ≤ k
  ks : k ≤ s.size
  idx : i = .int .i64 k
  frm : f = .int .i64 a
  own : wr.ownsRow w.heap.size 9 1 v ps.length (ps.map strV)
  below : Below w.heap.size w wr
  few : ps.length ≤ a
  eq : Hid (ps ++ splitAux c (seg s a k) (s.data.toList.drop k) = splitL c s.data.toList)

theorem l1Split_any (s : ByteArray) (c : Int) (w : World) (hs : s.size ≤ 1048576) (hc0 : 0 ≤ c) (hc : c ≤ 255) :
    Calls Tryd.prog 39 #[.string s, .int .u8 c] w fun e w' => ∃ v, e = .returned v ∧ w'.ownsRow w.heap.size 9 1 v (splitL c s.data.toList).length ((splitL c s.data.toList).map strV) ∧ Below w.heap.size w w' := by
  obtain ⟨i0, hi, hz0, hz1, hz2⟩ := info_parts Tryd.infoStr
  have hbt := get_bt s
  go_enter Tryd.func39, Tryd.ntmps39
  go_wp2
  go_loopw [5, 6, 7] (fun v f i wr => ∃ ps a k, SpRel s c w v f i wr ps a k) (fun _ _ i _ => s.size - (intOf i).toNat)
  case atStart => exact ⟨[], 0, 0, ⟨Nat.le_refl _, Nat.zero_le _, rfl, rfl, World.ownsRow_nil w _ _ _, Below.refl _ _, Nat.le_refl _, Lib.hid (by rw [seg_self]; rfl)⟩⟩
  case round =>
    obtain ⟨ps, a, k, hak, hk, rfl, rfl, ho, hb, hfew, HE⟩ := hrel
    have HO := Lib.hid ho
    have HB := Lib.hid hb
    have hsz := hb.size
    clear ho hb
    by_cases hlt : k < s.size
    · have q1 : (0 : Int) ≤ (k : Int) := by omega
      have q2 : (k : Int) < (s.size : Int) := by omega
      by_cases hx : bt s k = c
      · have hx' : (bt s k == c) = true := by simpa using hx
        have HX := Lib.hid (split_hit s c a k hlt hx)
        clear hx
        go_wp2_with (at_builtin; refine wpList_append_src _ rfl (.tmp 19) (.tmp 24) 66 rfl w.heap.size 9 i0 (.string ⟨#[]⟩) 16 Tryd.underlying66 hi hz0 hz1 hz2 rfl _ ps.length (ps.map strV) rfl (HO.out.alloc _) (some ⟨wr.heap.size, 0, none⟩) 1 1 [.string (s.extract a k)] rfl rfl (fun _ => ⟨_, rfl, one_news (by simp)⟩) (by intro u hu; simp at hu; subst hu; rfl) (by unfold maxLen; omega) (by omega) (by simp; omega) ?_; intro v1 w1 hown1 hgrow1 hat1; have HOWN1 := Lib.hid hown1; have HG1 := Lib.hid hgrow1; clear hown1 hgrow1 hat1)
        go_roundw
        case rel => exact ⟨ps ++ [seg s a k], k + 1, k + 1, ⟨by omega, by omega, by go_num, by go_num, by rw [piece_len, ← piece_map]; exact HOWN1.out, Below.grown (HB.out.alloc hsz _) HG1.out (by simp; omega) (fun kk e => (HO.out.lt kk e).1), by rw [piece_len]; omega, Lib.hid (by rw [List.append_assoc]; show ps ++ (seg s a k :: splitAux c (seg s (k + 1) (k + 1)) (s.data.toList.drop (k + 1))) = _; rw [← HX.out]; exact HE.out)⟩⟩
        case measure => simp [intOf]; omega
      · have hx' : (bt s k == c) = false := by simpa using hx
        have HX := Lib.hid (split_miss s c a k hak hlt hx)
        clear hx
        go_wp2
        go_roundw
        case rel => exact ⟨ps, a, k + 1, ⟨by omega, by omega, by go_num, rfl, HO.out, HB.out, hfew, Lib.hid (by rw [← HX.out]; exact HE.out)⟩⟩
        case measure => simp [intOf]; omega
    · obtain rfl : k = s.size := by omega
      have HX : Hid (splitL c s.data.toList = ps ++ [seg s a s.size]) := Lib.hid (by
        rw [← HE.out, List.drop_of_length_le (show s.data.toList.length ≤ s.size from Nat.le_refl _)]
        rfl)
      have q1 : (0 : Int) ≤ (a : Int) := by omega
      have q2 : (a : Int) ≤ (s.size : Int) := by omega
      go_wp2_with (at_builtin; refine wpList_append_src _ rfl (.tmp 28) (.tmp 32) 66 rfl w.heap.size 9 i0 (.string ⟨#[]⟩) 16 Tryd.underlying66 hi hz0 hz1 hz2 rfl _ ps.length (ps.map strV) rfl (HO.out.alloc _) (some ⟨wr.heap.size, 0, none⟩) 1 1 [.string (s.extract a s.size)] rfl rfl (fun _ => ⟨_, rfl, one_news (by simp)⟩) (by intro u hu; simp at hu; subst hu; rfl) (by unfold maxLen; omega) (by omega) (by simp; omega) ?_; intro v1 w1 hown1 hgrow1 hat1; have HOWN1 := Lib.hid hown1; have HG1 := Lib.hid hgrow1; clear hown1 hgrow1 hat1)
      go_ret
      refine ⟨v1, rfl, ?_, Below.grown (HB.out.alloc hsz _) HG1.out (by simp; omega) (fun kk e => (HO.out.lt kk e).1)⟩
      rw [HX.out, piece_len, ← piece_map]
      exact HOWN1.out
end Go.Proofs.YtnlcdfaojcnkpaaDoor
