/- The words of a line, as the program reads them. -/
import Derived.Test.YtnlcdfaojcnkpaaDoorPcD
namespace Go.Proofs.YtnlcdfaojcnkpaaDoor
open Go.ChangeShapes Go.WideShapes Go.ChangeAt Go.RowKit Go.PlainAid Go.Sort
set_option linter.unusedVariables false

theorem ownsRow_next {w w' : World} {B sz n : Nat} {e : TypeId} {v : Value} {xs : List Value} (h : w.ownsRow B e sz v n xs) (hb : Below w.heap.size w w') : w'.ownsRow B e sz v n xs := by
  refine ⟨h.1, ?_⟩
  rcases h.2 with h0 | ⟨g, cap, cur, rfl, h2, h3, h4⟩
  · exact .inl h0
  · exact .inr ⟨g, cap, cur, rfl, h2, by rw [hb.block g (h.lt g rfl).2]; exact h3, h4⟩
def Holds (w : World) (g : Nat) : Prop := ∃ ev, w.cell? ⟨g, 0, none⟩ = some ev ∧ (ev = .nilIface ∨ ∃ te pe, ev = .iface te pe)
theorem Holds.next {w w' : World} {g : Nat} (h : Holds w g) (hb : Below w.heap.size w w') : Holds w' g := by
  obtain ⟨ev, h1, h2⟩ := h
  exact ⟨ev, (hb.cell (p := ⟨g, 0, none⟩) (Lib.lt_of_cell h1)).trans h1, h2⟩
/-- What the library's reading of numbers and its search ask of the world. -/
structure LibW (w : World) : Prop where
  max : ∃ m, w.cell? ⟨2, 0, none⟩ = some (.int .i64 m)
  syn : Holds w 6
  rng : Holds w 7
theorem LibW.next {w w' : World} (h : LibW w) (hb : Below w.heap.size w w') : LibW w' := by
  obtain ⟨⟨m, hm⟩, h2, h3⟩ := h
  exact ⟨⟨m, (hb.cell (p := ⟨_, 0, none⟩) (Lib.lt_of_cell hm)).trans hm⟩, h2.next hb, h3.next hb⟩
theorem iAtoi_any (s : ByteArray) (w : World) (hs : s.size ≤ 1048576) (hT : LibW w) :
    Calls Tryd.prog 119 #[.string s] w fun e w' => ((OkI s.data.toList ∧ e = .returned (.tuple #[.int .i64 (rdI s.data.toList), .nilIface])) ∨ (¬ OkI s.data.toList ∧ ∃ n t p, e = .returned (.tuple #[.int .i64 n, .iface t (.pointer (some p))]))) ∧ Below w.heap.size w w' := by
  cases h : Lib.atoiAll s.data.toList with
  | ok v =>
    refine (Tryd.strconv_Atoi_ok s (by omega) v h w).mono ?_
    rintro e w' ⟨rfl, hw⟩
    refine ⟨.inl ⟨⟨v, h⟩, by unfold rdI; rw [h]⟩, ?_⟩
    rcases hw with rfl | ⟨t, rfl⟩
    · exact Below.refl _ _
    · exact Lib.bytesWorld_below _ _ _
  | «syntax» =>
    obtain ⟨ev, h1, h2⟩ := hT.syn
    refine (Tryd.strconv_Atoi_syntax s (by omega) h ev w h1 h2).mono ?_
    rintro e w' ⟨N, rfl, _, _, hb⟩
    exact ⟨.inr ⟨(fun ⟨v, hv⟩ => by rw [h] at hv; cases hv), _, _, _, rfl⟩, hb⟩
  | range =>
    obtain ⟨ev, h1, h2⟩ := hT.rng
    refine (Tryd.strconv_Atoi_range s (by omega) h ev w h1 h2).mono ?_
    rintro e w' ⟨N, rfl, _, _, hb⟩
    exact ⟨.inr ⟨(fun ⟨v, hv⟩ => by rw [h] at hv; cases hv), _, _, _, rfl⟩, hb⟩
theorem countB_len (c : UInt8) (s : ByteArray) : Lib.countB s ⟨#[c]⟩ + 1 = (splitL (c.toNat : Int) s.data.toList).length := by
  have h := congrArg List.length (splitB_one c s)
  rw [List.length_map, List.length_map] at h
  rw [← h, Lib.splitB_all ⟨#[c]⟩ (Nat.le_refl _) 0 _ s rfl]
theorem iSplit_any (s : ByteArray) (c : UInt8) (w : World) (hs : s.size ≤ 1048576) (hT : LibW w) :
    Calls Tryd.prog 42 #[.string s, .string ⟨#[c]⟩] w fun e w' => e = .returned (.slice (some ⟨w.heap.size, 0, none⟩) (splitL (c.toNat : Int) s.data.toList).length (splitL (c.toNat : Int) s.data.toList).length) ∧ StrAt w' w.heap.size (splitL (c.toNat : Int) s.data.toList) ∧ Below w.heap.size w w' := by
  obtain ⟨m, hm⟩ := hT.max
  refine (Tryd.strings_Split s ⟨#[c]⟩ m w (by omega) hm (Nat.le_refl _)).mono ?_
  rintro e w' ⟨rfl, rfl⟩
  rw [countB_len, splitB_one]
  exact ⟨rfl, strAt_new _ _ _, (Below.refl _ _).alloc (Nat.le_refl _) _⟩
theorem lineI_it {l : List UInt8} : LineI l ↔ ∀ k, k < (wds l).length → OkI (it (wds l) k) := by
  constructor
  · exact fun h k hk => h _ (it_mem hk)
  · intro h w hw
    obtain ⟨j, hj, rfl⟩ := mem_elsI hw
    exact h j hj
/-- What the reading of a line's numbers answers. -/
def NmAns (l : List UInt8) (w : World) (e : Ending) (w' : World) : Prop :=
  ((LineI l ∧ ∃ A c, e = .returned (.tuple #[.slice A (nmsI l).length c, .bool true]) ∧ Owned (fun i => w.heap.size ≤ i) w' A (nmsI l)) ∨
   (¬ LineI l ∧ e = .returned (.tuple #[.slice none 0 0, .bool false]))) ∧ Below w.heap.size w w'
/-- What a line's reading answers. -/
def WnAns (l : List UInt8) (w : World) (e : Ending) (w' : World) : Prop :=
  ((LineI l ∧ ∃ A c, e = .returned (.tuple #[.string (hdW l), .slice A (nmsI l).length c, .bool true]) ∧ Owned (fun i => w.heap.size ≤ i) w' A (nmsI l)) ∨
   (¬ LineI l ∧ e = .returned (.tuple #[.string (hdW l), .slice none 0 0, .bool false]))) ∧ Below w.heap.size w w'

set_option maxHeartbeats 1000000 in
theorem numbersOf_any (l : List UInt8) (b : Nat) (P : Option Addr) (c : Nat) (w : World) (hP : 0 < (wds l).length → P = some ⟨b, 1, none⟩) (hlt : b < w.heap.size) (hc : ∀ k, k < (wds l).length → w.cell? ⟨b, 1 + k, none⟩ = some (.string ⟨(it (wds l) k).toArray⟩)) (hz : ∀ k, k < (wds l).length → (it (wds l) k).length ≤ 1048576) (hfew : (wds l).length ≤ 1048577) (hT : LibW w) :
    Calls Tryd.prog 97 #[.slice P (wds l).length c] w (NmAns l w) := by
  unfold NmAns
  obtain ⟨i0, hi, hz0, hz1, hz2⟩ := info_parts Tryd.infoInt
  have HZ := Lib.hid (And.intro hi (And.intro hz0 (And.intro hz1 hz2)))
  clear hi hz0 hz1 hz2
  have HT := Lib.hid hT
  have HC := Lib.hid hc
  have HSZ := Lib.hid hz
  have HP := Lib.hid hP
  have HLI := Lib.hid (lineI_it (l := l))
  have HV := Lib.hid (show nmsI l = numTo rdI (wds l) (wds l).length from (numTo_all _ _).symm)
  clear hT hc hz hP
  go_enter Tryd.func97, Tryd.ntmps97
  generalize hm : (wds l).length = m at *
  go_wp2_with fail
  go_loopw [4, 11] (fun v i wr => ∃ k : Nat, k ≤ m ∧ i = .int .i64 k ∧ Below w.heap.size w wr ∧ Hid (wr.ownsRow w.heap.size 3 1 v (numTo rdI (wds l) k).length ((numTo rdI (wds l) k).map (Value.int .i64))) ∧ Hid (∀ j, j < k → OkI (it (wds l) j))) (fun _ i _ => m - (intOf i).toNat)
  case atStart => exact ⟨0, Nat.zero_le _, rfl, Below.refl _ _, Lib.hid (World.ownsRow_nil w _ _ _), Lib.hid (fun j hj => absurd hj (Nat.not_lt_zero _))⟩
  case round =>
    obtain ⟨k, hk, rfl, hb, HO, HI⟩ := hrel
    have HB2 := Lib.hid hb
    have hsz := hb.size
    have HNL := Lib.hid (numTo_len rdI (ws := wds l) (k := k) (by omega))
    by_cases hkm : k < m
    · obtain rfl := HP.out (by omega)
      have HN := Lib.hid (numTo_next (f := rdI) (ws := wds l) (k := k) (by omega))
      have hv : wr.cell? ⟨b, 1 + k, none⟩ = some (.string ⟨(it (wds l) k).toArray⟩) := (hb.cell (p := ⟨b, 1 + k, none⟩) hlt).trans (HC.out k hkm)
      have hq : (⟨(it (wds l) k).toArray⟩ : ByteArray).size ≤ 1048576 := by
        have := HSZ.out k hkm
        show (it (wds l) k).toArray.size ≤ _
        rw [List.size_toArray]
        omega
      have HAT := Lib.hid (iAtoi_any ⟨(it (wds l) k).toArray⟩ wr hq (HT.out.next hb))
      have HQ : Hid ((⟨(it (wds l) k).toArray⟩ : ByteArray).data.toList = it (wds l) k) := Lib.hid rfl
      have HBR := Lib.hid hb
      clear hb hq
      rw [HQ.out] at HAT
      go_wp2_with fail
      clear hv
      refine HAT.out.mono ?_
      rintro e w2 ⟨hat, hb2⟩
      have HBR2 := Lib.hid (Below_next HBR.out hb2)
      have HO2 := Lib.hid (ownsRow_next HO.out hb2)
      have hsz2 := hb2.size
      clear hb2 HAT
      rcases hat with ⟨hok, rfl⟩ | ⟨hno, x, t, p, rfl⟩
      · have HI2 := Lib.hid (show ∀ j, j < k + 1 → OkI (it (wds l) j) from fun j hj => by
          rcases Nat.lt_or_ge j k with h1 | h1
          · exact HI.out j h1
          · obtain rfl : j = k := by omega
            exact hok)
        clear hok
        go_wp2_with (at_builtin; refine wpList_append_src _ rfl (.tmp 22) (.tmp 24) 23 rfl w.heap.size 3 i0 (.int .i64 0) 8 Tryd.underlying23 HZ.out.1 HZ.out.2.1 HZ.out.2.2.1 HZ.out.2.2.2 rfl _ (numTo rdI (wds l) k).length ((numTo rdI (wds l) k).map (Value.int .i64)) rfl (HO2.out.alloc _) (some ⟨w2.heap.size, 0, none⟩) 1 1 [.int .i64 (rdI (it (wds l) k))] rfl rfl (fun _ => ⟨_, rfl, one_news (by simp)⟩) (by intro u hu; simp at hu; subst hu; rfl) (by unfold maxLen; have := HNL.out; omega) (by have := HNL.out; omega) (by simp; omega) ?_; intro v1 w3 hown1 hgrow1 hat1; have HOWN1 := Lib.hid hown1; have HG1 := Lib.hid hgrow1; clear hown1 hgrow1 hat1)
        go_roundw
        case rel => exact ⟨k + 1, by omega, by go_num, Below.grown (HBR2.out.alloc (by omega) _) HG1.out (by simp; omega) (fun kk e => (HO2.out.lt kk e).1), Lib.hid (by rw [HN.out, List.length_append, List.map_append]; exact HOWN1.out), HI2⟩
        case measure => simp [RowKit.intOf]; omega
      · have HNO := Lib.hid (show ¬ LineI l from fun h => hno (HLI.out.1 h k (by omega)))
        clear hno
        go_wp2
        go_returns
        exact ⟨.inr ⟨HNO.out, rfl⟩, HBR2.out⟩
    · obtain rfl : k = m := by omega
      have HL := Lib.hid (HLI.out.2 (fun j hj => HI.out j (by omega)))
      obtain ⟨A', c', rfl, ho⟩ := own_row _ HO.out
      have HO2 := Lib.hid ho
      clear hb ho HO
      go_wp2
      go_returns
      exact ⟨.inl ⟨HL.out, A', c', by rw [HV.out]; rfl, by rw [HV.out]; exact HO2.out⟩, HB2.out⟩
set_option maxHeartbeats 1000000 in
theorem wordAndNumbers_any (s : ByteArray) (w : World) (hs : s.size ≤ 1048576) (hT : LibW w) :
    Calls Tryd.prog 73 #[.string s] w (WnAns s.data.toList w) := by
  unfold WnAns
  have HT := Lib.hid hT
  have HSZ := Lib.hid (fun l h => split_size (c := 32) (s := s) (l := l) h)
  have hfew := split_few' 32 s
  have hpos := split_some 32 s
  have hlen := wds_len s.data.toList
  have HW := Lib.hid (wds_it s.data.toList)
  have HH := Lib.hid (hdW_it s.data.toList)
  have HSP := Lib.hid (iSplit_any s 32 w hs hT)
  rw [show ((32 : UInt8).toNat : Int) = 32 from rfl] at HSP
  clear hT
  go_enter Tryd.func73, Tryd.ntmps73
  go_wp2_with fail
  refine HSP.out.mono ?_
  rintro e w1 ⟨rfl, hA, hb⟩
  have HA := Lib.hid hA
  have HB1 := Lib.hid hb
  have HT1 := Lib.hid (HT.out.next hb)
  have hfst := HA.out.cell 0 hpos
  rw [show strV (it (splitL 32 s.data.toList) 0) = .string (hdW s.data.toList) by rw [HH.out]; rfl] at hfst
  have HFST := Lib.hid hfst
  have HNO := Lib.hid (fun P c hP => numbersOf_any s.data.toList w.heap.size P c w1 hP HA.out.lt
    (fun k hk => by rw [HW.out k]; exact HA.out.cell (1 + k) (by omega))
    (fun k hk => by
      have := HSZ.out _ (it_mem (xs := splitL 32 s.data.toList) (i := 1 + k) (by omega))
      rw [← HW.out k] at this
      omega) (by omega) HT1.out)
  clear hb hA HSP HT hfst HH
  generalize hn : (splitL 32 s.data.toList).length = n at *
  generalize hm : (wds s.data.toList).length = m at *
  unfold NmAns at HNO
  have q1 : (1 : Int) ≤ (n : Int) := by omega
  by_cases hcap : n = 1
  · obtain rfl : m = 0 := by omega
    subst hcap
    go_wp2_with fail
    refine (HNO.out (some ⟨w.heap.size, 0, none⟩) 0 (fun h => absurd h (Nat.lt_irrefl 0))).mono ?_
    rintro e w2 ⟨hat, hb2⟩
    have HB2 := Lib.hid (Below_next HB1.out hb2)
    have hfst := (hb2.cell (p := ⟨w.heap.size, 0, none⟩) HA.out.lt).trans HFST.out
    have HS1 := Lib.hid HB1.out.size
    clear hb2 HNO
    rcases hat with ⟨hl, A', c', rfl, ho⟩ | ⟨hl, rfl⟩
    · have HO := Lib.hid (ho.mono (fun i h => Nat.le_trans HS1.out h))
      have HL := Lib.hid hl
      clear ho hl
      go_wp2
      go_returns
      exact ⟨.inl ⟨HL.out, A', c', rfl, HO.out⟩, HB2.out⟩
    · have HL := Lib.hid hl
      clear hl
      go_wp2
      go_returns
      exact ⟨.inr ⟨HL.out, rfl⟩, HB2.out⟩
  · obtain rfl : m = n - 1 := by omega
    go_wp2_with fail
    refine (HNO.out (some ⟨w.heap.size, 1, none⟩) (n - 1) (fun _ => rfl)).mono ?_
    rintro e w2 ⟨hat, hb2⟩
    have HB2 := Lib.hid (Below_next HB1.out hb2)
    have hfst := (hb2.cell (p := ⟨w.heap.size, 0, none⟩) HA.out.lt).trans HFST.out
    have HS1 := Lib.hid HB1.out.size
    clear hb2 HNO
    rcases hat with ⟨hl, A', c', rfl, ho⟩ | ⟨hl, rfl⟩
    · have HO := Lib.hid (ho.mono (fun i h => Nat.le_trans HS1.out h))
      have HL := Lib.hid hl
      clear ho hl
      go_wp2
      go_returns
      exact ⟨.inl ⟨HL.out, A', c', rfl, HO.out⟩, HB2.out⟩
    · have HL := Lib.hid hl
      clear hl
      go_wp2
      go_returns
      exact ⟨.inr ⟨HL.out, rfl⟩, HB2.out⟩
end Go.Proofs.YtnlcdfaojcnkpaaDoor
