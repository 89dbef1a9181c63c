/- The numbers of a line, as the model reads them. -/
import Derived.Test.YtnlcdfaojcnkpaaDoorPcC
import Derived.Test.YtnlcdfaojcnkpaaDoorBe
import Derived.Test.YtnlcdfaojcnkpaaDoorCdO
import Derived.Lib.SmallJoins
namespace Go.Proofs.YtnlcdfaojcnkpaaDoor
open Go.ChangeShapes Go.WideShapes Go.ChangeAt Go.RowKit Go.PlainAid Go.Sort
set_option linter.unusedVariables false

def numTo (f : List UInt8 → Int) (ws : List (List UInt8)) (k : Nat) : List Int := (ws.take k).map f
theorem numTo_next {f : List UInt8 → Int} {ws : List (List UInt8)} {k : Nat} (h : k < ws.length) : numTo f ws (k + 1) = numTo f ws k ++ [f (it ws k)] := by
  unfold numTo
  rw [List.take_add_one, it_get ws k h]
  simp
theorem numTo_len (f : List UInt8 → Int) {ws : List (List UInt8)} {k : Nat} (h : k ≤ ws.length) : (numTo f ws k).length = k := by
  unfold numTo
  rw [List.length_map, List.length_take]
  omega
theorem numTo_all (f : List UInt8 → Int) (ws : List (List UInt8)) : numTo f ws ws.length = ws.map f := by
  unfold numTo
  rw [List.take_length]
theorem wds_len (l : List UInt8) : (wds l).length + 1 = (splitL 32 l).length := by
  have := split_pos 32 l []
  unfold wds splitL
  rw [List.length_tail]
  omega
theorem wds_it (l : List UInt8) (k : Nat) : it (wds l) k = it (splitL 32 l) (1 + k) := by
  unfold wds it
  rw [Nat.add_comm]
  cases splitL 32 l <;> simp [List.getD_eq_getElem?_getD]
theorem hdW_it (l : List UInt8) : hdW l = ⟨(it (splitL 32 l) 0).toArray⟩ := by
  unfold hdW it
  cases splitL 32 l <;> rfl
theorem row_str {w : World} {B : Nat} {v : Value} {e : TypeId} {ls : List (List UInt8)} (h : w.ownsRow B e 1 v ls.length (ls.map strV)) (hp : 0 < ls.length) : ∃ g cap, v = .slice (some ⟨g, 0, none⟩) ls.length cap ∧ ls.length ≤ cap ∧ cap ≤ maxLen ∧ B ≤ g ∧ StrAt w g ls := by
  rcases h.2 with ⟨_, h0⟩ | ⟨g, cap, cur, rfl, h1, h2, h3, h4, h5, h6⟩
  · omega
  · exact ⟨g, cap, rfl, h3, h4, h1, strAt_of_row h⟩
theorem split_some (c : Int) (s : ByteArray) : 0 < (splitL c s.data.toList).length := split_pos c s.data.toList []
theorem split_few (c : Int) : ∀ (l cur : List UInt8), (splitAux c cur l).length ≤ l.length + 1
  | [], cur => Nat.le_refl _
  | x :: r, cur => by
    unfold splitAux
    split
    · rw [List.length_cons, List.length_cons]
      have := split_few c r []
      omega
    · rw [List.length_cons]
      have := split_few c r (cur ++ [x])
      omega
theorem split_few' (c : Int) (s : ByteArray) : (splitL c s.data.toList).length ≤ s.size + 1 := split_few c s.data.toList []

set_option maxHeartbeats 1000000 in
theorem cdNumbers_any (s : ByteArray) (w : World) (hs : s.size ≤ 1048576) :
    Calls Tryd.prog 40 #[.string s] w fun e w' => (∃ A c, e = .returned (.slice A (nmsS s.data.toList).length c) ∧ Owned (fun i => w.heap.size ≤ i) w' A (nmsS s.data.toList)) ∧ Below w.heap.size w w' := by
  obtain ⟨i0, hi, hz0, hz1, hz2⟩ := info_parts Tryd.infoInt
  have HZ := Lib.hid (And.intro hi (And.intro hz0 (And.intro hz1 hz2)))
  clear hi hz0 hz1 hz2
  have HSZ := Lib.hid (fun l h => split_size (c := 32) (s := s) (l := l) h)
  have hfew := split_few' 32 s
  have hpos := split_some 32 s
  have hlen := wds_len s.data.toList
  have HW := Lib.hid (wds_it s.data.toList)
  have HV := Lib.hid (show nmsS s.data.toList = numTo rdS (wds s.data.toList) (wds s.data.toList).length from (numTo_all _ _).symm)
  go_enter Tryd.func40, Tryd.ntmps40
  go_wp2_with fail
  refine (l1Split_any s 32 w hs (by omega) (by omega)).mono ?_
  rintro e w1 ⟨v, rfl, ho, hb⟩
  obtain ⟨g, cap, rfl, hc1, hc2, hg, hA⟩ := row_str ho hpos
  have HA := Lib.hid hA
  have HB1 := Lib.hid hb
  unfold maxLen at hc2
  clear ho hb hA
  generalize hn : (splitL 32 s.data.toList).length = n at *
  generalize hm : (wds s.data.toList).length = m at *
  have q1 : (1 : Int) ≤ (n : Int) := by omega
  have q2 : (n : Int) ≤ (cap : Int) := by omega
  by_cases hcap : cap = 1
  · obtain rfl : m = 0 := by omega
    subst hcap
    have HN0 := Lib.hid (show numTo rdS (wds s.data.toList) 0 = [] from rfl)
    go_wp2_with fail
    go_loopw [3, 10] (fun v i wr => v = .slice none 0 0 ∧ i = .int .i64 0 ∧ wr = w1) (fun _ i _ => 0)
    case atStart => exact ⟨rfl, rfl, rfl⟩
    case round =>
      obtain ⟨rfl, rfl, rfl⟩ := hrel
      go_wp2
      go_ret
      exact ⟨⟨none, 0, by rw [HV.out, HN0.out]; rfl, by rw [HV.out, HN0.out]; exact Owned.nil _ _ _⟩, HB1.out⟩
  go_wp2_with fail
  go_loopw [3, 10] (fun v i wr => ∃ k : Nat, k ≤ m ∧ i = .int .i64 k ∧ Below w1.heap.size w1 wr ∧ Hid (wr.ownsRow w1.heap.size 3 1 v (numTo rdS (wds s.data.toList) k).length ((numTo rdS (wds s.data.toList) k).map (Value.int .i64)))) (fun _ i _ => m - (intOf i).toNat)
  case atStart => exact ⟨0, Nat.zero_le _, rfl, Below.refl _ _, Lib.hid (World.ownsRow_nil w1 _ _ _)⟩
  case round =>
    obtain ⟨k, hk, rfl, hb, HO⟩ := hrel
    have HB2 := Lib.hid (Below_next HB1.out hb)
    have hsz := hb.size
    have HNL := Lib.hid (numTo_len rdS (ws := wds s.data.toList) (k := k) (by omega))
    by_cases hlt : k < m
    · have HN := Lib.hid (numTo_next (f := rdS) (ws := wds s.data.toList) (k := k) (by omega))
      have hv : wr.cell? ⟨g, 1 + k, none⟩ = some (.string ⟨(it (wds s.data.toList) k).toArray⟩) := by
        rw [HW.out k]
        exact (HA.out.next hb).cell (1 + k) (by omega)
      have hq : (⟨(it (wds s.data.toList) k).toArray⟩ : ByteArray).size ≤ 1048576 := by
        have := HSZ.out _ (it_mem (xs := splitL 32 s.data.toList) (i := 1 + k) (by omega))
        rw [← HW.out k] at this
        show (it (wds s.data.toList) k).toArray.size ≤ _
        rw [List.size_toArray]
        omega
      have HR : Hid (rdS (it (wds s.data.toList) k) = readB ⟨(it (wds s.data.toList) k).toArray⟩) := Lib.hid rfl
      have HBR := Lib.hid hb
      clear hb
      generalize (⟨(it (wds s.data.toList) k).toArray⟩ : ByteArray) = q at hv hq HR
      go_wp2_with (first | (go_at_call 72; refine (l1Read_any q _ hq).mono ?_; rintro e w2 ⟨rfl, hw, hr1, hr2⟩; obtain rfl := hw) | (at_builtin; refine wpList_append_src _ rfl (.tmp 14) (.tmp 17) 23 rfl w1.heap.size 3 i0 (.int .i64 0) 8 Tryd.underlying23 HZ.out.1 HZ.out.2.1 HZ.out.2.2.1 HZ.out.2.2.2 rfl _ (numTo rdS (wds s.data.toList) k).length ((numTo rdS (wds s.data.toList) k).map (Value.int .i64)) rfl (HO.out.alloc _) (some ⟨wr.heap.size, 0, none⟩) 1 1 [.int .i64 (readB q)] rfl rfl (fun _ => ⟨_, rfl, one_news (by simp)⟩) (by intro u hu; simp at hu; subst hu; rfl) (by unfold maxLen; have := HNL.out; omega) (by have := HNL.out; omega) (by simp; omega) ?_; intro v1 w2 hown1 hgrow1 hat1; have HOWN1 := Lib.hid hown1; have HG1 := Lib.hid hgrow1; clear hown1 hgrow1 hat1))
      go_roundw
      case rel => exact ⟨k + 1, by omega, by go_num, Below.grown (HBR.out.alloc hsz _) HG1.out (by simp; omega) (fun kk e => (HO.out.lt kk e).1), Lib.hid (by rw [HN.out, HR.out, List.length_append, List.map_append]; exact HOWN1.out)⟩
      case measure => simp [intOf]; omega
    · obtain rfl : k = m := by omega
      subst hm
      obtain ⟨A', c', rfl, ho⟩ := own_row _ HO.out
      have HO2 := Lib.hid ho
      clear hb ho HO
      go_wp2
      go_ret
      exact ⟨⟨A', c', by rw [HV.out]; rfl, by rw [HV.out]; exact HO2.out.mono (fun i h => Nat.le_trans HB1.out.size h)⟩, HB2.out⟩
end Go.Proofs.YtnlcdfaojcnkpaaDoor
