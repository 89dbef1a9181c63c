/- The walk of the program's looseCode. -/
import Derived.Test.YtnlcdfaojcnkpaaDoorPcG
namespace Go.Proofs.YtnlcdfaojcnkpaaDoor
open Go.ChangeShapes Go.WideShapes Go.ChangeAt Go.RowKit Go.PlainAid Go.Sort
set_option linter.unusedVariables false

/-- A code that a call hands out with a bool: its elements lie in blocks from B on, its limits in blocks of the call's own below B. -/
def LooseAns (w : World) (x : Cd) (e : Ending) (w' : World) : Prop :=
  ∃ A c L d B, e = .returned (.tuple #[x.val A c L d, .bool true]) ∧ Owned (fun i => B ≤ i) w' A x.els ∧ Owned (fun i => w.heap.size ≤ i ∧ i < B) w' L x.lims ∧ w.heap.size ≤ B
def FourS (a o : Nat) (v0 v1 v2 v3 : Value) (w : World) : Prop := w.cell? ⟨a, o, none⟩ = some v0 ∧ w.cell? ⟨a, o + 1, none⟩ = some v1 ∧ w.cell? ⟨a, o + 2, none⟩ = some v2 ∧ w.cell? ⟨a, o + 3, none⟩ = some v3
theorem FourS.next {a o : Nat} {v0 v1 v2 v3 : Value} {w w' : World} (h : FourS a o v0 v1 v2 v3 w) (ha : a < w.heap.size) (hb : Below w.heap.size w w') :
    w'.cell? ⟨a, o, none⟩ = some v0 ∧ w'.cell? ⟨a, o + 1, none⟩ = some v1 ∧ w'.cell? ⟨a, o + 2, none⟩ = some v2 ∧ w'.cell? ⟨a, o + 3, none⟩ = some v3 :=
  ⟨(hb.cell (p := ⟨a, o, none⟩) ha).trans h.1, (hb.cell (p := ⟨a, o + 1, none⟩) ha).trans h.2.1, (hb.cell (p := ⟨a, o + 2, none⟩) ha).trans h.2.2.1, (hb.cell (p := ⟨a, o + 3, none⟩) ha).trans h.2.2.2⟩
theorem PsBox.next {w wx wx' : World} {b : Nat} {A : Option Addr} {c : Nat} {ns : List Int} {r0 r1 r2 r3 : Int} (h : PsBox w wx b A c ns r0 r1 r2 r3) (hb : Below wx.heap.size wx wx') : PsBox w wx' b A c ns r0 r1 r2 r3 :=
  ⟨Below_next h.below hb, h.mem.below hb h.lt, h.ge, Nat.lt_of_lt_of_le h.lt hb.size, h.own.keepB hb⟩
theorem src_newd (w : World) (y : El) (t : TypeId) : 0 < 1 → ∃ ad, (some ⟨w.heap.size, 0, none⟩ : Option Addr) = some ad ∧ ∀ j u, ([y].flatMap (Flat.cells (α := El)))[j]? = some u → (w.alloc (.cells #[.string y.name, .int .i64 y.fam, .int .i64 y.lev, .int .i64 y.base] t)).drew.cell? (ad.add j) = some u := fun hp => by
  obtain ⟨ad, e, h⟩ := src_new w y t hp
  exact ⟨ad, e, fun j u hj => h j u hj⟩
theorem own_els {w : World} {B : Nat} {v : Value} (xs : List El) (h : w.ownsRow B 64 4 v xs.length (xs.flatMap Flat.cells)) : ∃ A c, v = .slice A xs.length c ∧ Owned (fun i => B ≤ i) w A xs := by
  rcases Joins.ownsRow_forms h with ⟨rfl, h0⟩ | ⟨g, cap, rfl⟩
  · obtain rfl : xs = [] := List.eq_nil_of_length_eq_zero h0
    exact ⟨none, 0, rfl, Owned.nil _ _ _⟩
  · exact ⟨some ⟨g, 0, none⟩, cap, rfl, fun _ => ⟨g, 0, rfl, (h.lt g rfl).1, (h.lt g rfl).2, own_of_row (α := El) (cap := cap) (e := 64) (base := B) xs h⟩⟩

set_option maxHeartbeats 4000000 in
set_option maxRecDepth 20000 in
theorem looseCode_any (g : Nat) (ls : List (List UInt8)) (w : World) (hA : StrAt w g ls) (hsz : ∀ l ∈ ls, l.length ≤ 1048576) (hlen : ls.length ≤ 1048577) (hT : LibW w) :
    Calls Tryd.prog 41 #[.slice (some ⟨g, 0, none⟩) ls.length ls.length] w fun e w' => (ParI ls ∧ LooseAns w (parN nmsI ls) e w' ∧ Below w.heap.size w w') ∨ (¬ ParI ls ∧ e = .returned (.tuple #[.agg #[.slice none 0 0, .slice none 0 0, .int .i64 0, .int .i64 0, .int .i64 0, .int .i64 0], .bool false]) ∧ Below w.heap.size w w') := by
  obtain ⟨i0, hi, hz0, hz1, hz2⟩ := info_parts Tryd.infoEl
  have HZ := Lib.hid (And.intro hi (And.intro hz0 (And.intro hz1 hz2)))
  clear hi hz0 hz1 hz2
  have HSZ := Lib.hid hsz
  have HML := Lib.hid (fun k h => mid_it (ls := ls) (k := k) h)
  have HN := Lib.hid (show (3 ≤ ls.length → (midL ls).length = ls.length - 3) from fun h => mid_len (by omega))
  have HA0 := Lib.hid hA
  have HT0 := Lib.hid hT
  clear hsz hA hT
  go_enter Tryd.func41, Tryd.ntmps41
  generalize hn : ls.length = n at *
  by_cases h3 : n < 3
  · have HNO := Lib.hid (show ¬ ParI ls from fun q => by have := q.lo; omega)
    go_upto_region 1 with fail
    generalize hW : World.alloc w _ = W
    have HB1 : Hid (Below w.heap.size w W) := Lib.hid (by
      rw [← hW]
      go_grown)
    have HM1 : Hid (CdMem W w.heap.size (.slice none 0 0) (.slice none 0 0) (.int .i64 0) (.int .i64 0) (.int .i64 0) (.int .i64 0)) := Lib.hid (by
      rw [← hW]
      exact cdMem_new _ _ _ rfl _ _ _ _ _ _)
    clear hW
    obtain ⟨m0, m1, m2, m3, m4, m5, mf⟩ := HM1.out
    go_wp2
    refine stop_body ⟨?_⟩
    intro w8 hw8
    have hm8 := HM1.out.all (.slice none 0 0) (.slice none 0 0) (.int .i64 0) (.int .i64 0) (.int .i64 0) (.int .i64 0)
    have hb8 := below_six HB1.out w.heap.size (Nat.le_refl _) (.slice none 0 0) (.slice none 0 0) (.int .i64 0) (.int .i64 0) (.int .i64 0) (.int .i64 0)
    rw [show put6 W w.heap.size (.slice none 0 0) (.slice none 0 0) (.int .i64 0) (.int .i64 0) (.int .i64 0) (.int .i64 0) = w8 from hw8.symm] at hm8 hb8
    have HB8 := Lib.hid hb8
    clear hw8 hb8 m0 m1 m2 m3 m4 m5 mf
    obtain ⟨m0, m1, m2, m3, m4, m5, mf⟩ := hm8
    refine bodyPost_ret (v := .tuple #[.agg #[.slice none 0 0, .slice none 0 0, .int .i64 0, .int .i64 0, .int .i64 0, .int .i64 0], .bool false]) (by simp [results, Tryd.results41, go_sem, m0, m1, m2, m3, m4, m5]) rfl ?_
    exact .inr ⟨HNO.out, rfl, HB8.out⟩
  have HN := Lib.hid (HN.out (by omega))
  go_upto_region 1 with fail
  generalize hW : World.alloc w _ = W
  have HB1 : Hid (Below w.heap.size w W) := Lib.hid (by
    rw [← hW]
    go_grown)
  have HM1 : Hid (CdMem W w.heap.size (.slice none 0 0) (.slice none 0 0) (.int .i64 0) (.int .i64 0) (.int .i64 0) (.int .i64 0)) := Lib.hid (by
    rw [← hW]
    exact cdMem_new _ _ _ rfl _ _ _ _ _ _)
  have HS1 := Lib.hid (show W.heap.size = w.heap.size + 1 by rw [← hW]; simp)
  clear hW
  have HA1 := Lib.hid (HA0.out.next HB1.out)
  have HT1 := Lib.hid (HT0.out.next HB1.out)
  have hgW := HA0.out.lt
  clear HA0 HT0
  have hl0 : W.cell? ⟨g, 0, none⟩ = some (.string (toB' (it ls 0))) := HA1.out.cell 0 (by omega)
  have hz0 : (toB' (it ls 0)).size ≤ 1048576 := by
    have := HSZ.out _ (it_mem (xs := ls) (i := 0) (by omega))
    show (it ls 0).toArray.size ≤ _
    rw [List.size_toArray]
    exact this
  have hz1 : (toB' (it ls 1)).size ≤ 1048576 := by
    have := HSZ.out _ (it_mem (xs := ls) (i := 1) (by omega))
    show (it ls 1).toArray.size ≤ _
    rw [List.size_toArray]
    exact this
  have q0 : (0 : Int) < (n : Int) := by omega
  have q1 : (1 : Int) < (n : Int) := by omega
  have HW0 := Lib.hid (wordAndNumbers_any (toB' (it ls 0)) W hz0 HT1.out)
  have HW1 := Lib.hid (fun w' (hb : Below W.heap.size W w') => wordAndNumbers_any (toB' (it ls 1)) w' hz1 (HT1.out.next hb))
  rw [toB'_list] at HW0 HW1
  clear hz0 hz1
  go_wp2_with fail
  refine HW0.out.mono ?_
  rintro e w1 ⟨hans, hb⟩
  have HC1 := Lib.hid hb
  have HBw := Lib.hid (Below_next HB1.out hb)
  have HMw := Lib.hid (HM1.out.below hb (by have := HS1.out; omega))
  have HSw := Lib.hid (show w.heap.size < w1.heap.size ∧ g < w1.heap.size by have := HS1.out; have := hb.size; omega)
  clear hb HW0 hl0
  rcases hans with ⟨hL0, A5, c5, rfl, ho5⟩ | ⟨hL0, rfl⟩
  rotate_left
  · have HNO := Lib.hid (show ¬ ParI ls from fun q => hL0 q.l0)
    obtain ⟨m0, m1, m2, m3, m4, m5, mf⟩ := HMw.out
    go_wp2
    refine stop_body ⟨?_⟩
    intro w8 hw8
    have hm8 := HMw.out.all (.slice none 0 0) (.slice none 0 0) (.int .i64 0) (.int .i64 0) (.int .i64 0) (.int .i64 0)
    have hb8 := below_six HBw.out w.heap.size (Nat.le_refl _) (.slice none 0 0) (.slice none 0 0) (.int .i64 0) (.int .i64 0) (.int .i64 0) (.int .i64 0)
    rw [show put6 w1 w.heap.size (.slice none 0 0) (.slice none 0 0) (.int .i64 0) (.int .i64 0) (.int .i64 0) (.int .i64 0) = w8 from hw8.symm] at hm8 hb8
    have HB8 := Lib.hid hb8
    clear hw8 hb8 m0 m1 m2 m3 m4 m5 mf
    obtain ⟨m0, m1, m2, m3, m4, m5, mf⟩ := hm8
    refine bodyPost_ret (v := .tuple #[.agg #[.slice none 0 0, .slice none 0 0, .int .i64 0, .int .i64 0, .int .i64 0, .int .i64 0], .bool false]) (by simp [results, Tryd.results41, go_sem, m0, m1, m2, m3, m4, m5]) rfl ?_
    exact .inr ⟨HNO.out, rfl, HB8.out⟩
  have HL0 := Lib.hid hL0
  by_cases hh : (nmsI (it ls 0)).length = 4
  rotate_left
  · have HNO := Lib.hid (show ¬ ParI ls from fun q => hh q.head)
    have hh' : ((nmsI (it ls 0)).length : Int) < 4 ∨ (4 : Int) < ((nmsI (it ls 0)).length : Int) := by omega
    generalize (nmsI (it ls 0)).length = h0 at hh'
    rcases hh' with hh' | hh'
    · obtain ⟨m0, m1, m2, m3, m4, m5, mf⟩ := HMw.out
      go_wp2
      refine stop_body ⟨?_⟩
      intro w8 hw8
      have hm8 := HMw.out.all (.slice none 0 0) (.slice none 0 0) (.int .i64 0) (.int .i64 0) (.int .i64 0) (.int .i64 0)
      have hb8 := below_six HBw.out w.heap.size (Nat.le_refl _) (.slice none 0 0) (.slice none 0 0) (.int .i64 0) (.int .i64 0) (.int .i64 0) (.int .i64 0)
      rw [show put6 w1 w.heap.size (.slice none 0 0) (.slice none 0 0) (.int .i64 0) (.int .i64 0) (.int .i64 0) (.int .i64 0) = w8 from hw8.symm] at hm8 hb8
      have HB8 := Lib.hid hb8
      clear hw8 hb8 m0 m1 m2 m3 m4 m5 mf
      obtain ⟨m0, m1, m2, m3, m4, m5, mf⟩ := hm8
      refine bodyPost_ret (v := .tuple #[.agg #[.slice none 0 0, .slice none 0 0, .int .i64 0, .int .i64 0, .int .i64 0, .int .i64 0], .bool false]) (by simp [results, Tryd.results41, go_sem, m0, m1, m2, m3, m4, m5]) rfl ?_
      exact .inr ⟨HNO.out, rfl, HB8.out⟩
    · obtain ⟨m0, m1, m2, m3, m4, m5, mf⟩ := HMw.out
      go_wp2
      refine stop_body ⟨?_⟩
      intro w8 hw8
      have hm8 := HMw.out.all (.slice none 0 0) (.slice none 0 0) (.int .i64 0) (.int .i64 0) (.int .i64 0) (.int .i64 0)
      have hb8 := below_six HBw.out w.heap.size (Nat.le_refl _) (.slice none 0 0) (.slice none 0 0) (.int .i64 0) (.int .i64 0) (.int .i64 0) (.int .i64 0)
      rw [show put6 w1 w.heap.size (.slice none 0 0) (.slice none 0 0) (.int .i64 0) (.int .i64 0) (.int .i64 0) (.int .i64 0) = w8 from hw8.symm] at hm8 hb8
      have HB8 := Lib.hid hb8
      clear hw8 hb8 m0 m1 m2 m3 m4 m5 mf
      obtain ⟨m0, m1, m2, m3, m4, m5, mf⟩ := hm8
      refine bodyPost_ret (v := .tuple #[.agg #[.slice none 0 0, .slice none 0 0, .int .i64 0, .int .i64 0, .int .i64 0, .int .i64 0], .bool false]) (by simp [results, Tryd.results41, go_sem, m0, m1, m2, m3, m4, m5]) rfl ?_
      exact .inr ⟨HNO.out, rfl, HB8.out⟩
  have hl1 : w1.cell? ⟨g, 1, none⟩ = some (.string (toB' (it ls 1))) := (HA1.out.next HC1.out).cell 1 (by omega)
  have HO5 := Lib.hid ho5
  clear hL0 ho5
  have HHD := Lib.hid hh
  rw [hh]
  clear hh
  go_wp2_with fail
  refine (HW1.out w1 HC1.out).mono ?_
  rintro e w2 ⟨hans, hb⟩
  have HC2 := Lib.hid (Below_next HC1.out hb)
  have HB2 := Lib.hid (Below_next HBw.out hb)
  have HM2 := Lib.hid (HMw.out.below hb HSw.out.1)
  have HS2 := Lib.hid (show w.heap.size < w2.heap.size ∧ g < w2.heap.size by have := HSw.out; have := hb.size; omega)
  have HO52 := Lib.hid (HO5.out.keepB hb)
  have HS12 := Lib.hid (show W.heap.size ≤ w1.heap.size ∧ W.heap.size = w.heap.size + 1 from ⟨HC1.out.size, HS1.out⟩)
  clear hb HW1 hl1 HO5 HBw HMw
  rcases hans with ⟨hL1, A8, c8, rfl, ho8⟩ | ⟨hL1, rfl⟩
  rotate_left
  · have HNO := Lib.hid (show ¬ ParI ls from fun q => hL1 q.l1)
    obtain ⟨m0, m1, m2, m3, m4, m5, mf⟩ := HM2.out
    go_wp2
    refine stop_body ⟨?_⟩
    intro w8 hw8
    have hm8 := HM2.out.all (.slice none 0 0) (.slice none 0 0) (.int .i64 0) (.int .i64 0) (.int .i64 0) (.int .i64 0)
    have hb8 := below_six HB2.out w.heap.size (Nat.le_refl _) (.slice none 0 0) (.slice none 0 0) (.int .i64 0) (.int .i64 0) (.int .i64 0) (.int .i64 0)
    rw [show put6 w2 w.heap.size (.slice none 0 0) (.slice none 0 0) (.int .i64 0) (.int .i64 0) (.int .i64 0) (.int .i64 0) = w8 from hw8.symm] at hm8 hb8
    have HB8 := Lib.hid hb8
    clear hw8 hb8 m0 m1 m2 m3 m4 m5 mf
    obtain ⟨m0, m1, m2, m3, m4, m5, mf⟩ := hm8
    refine bodyPost_ret (v := .tuple #[.agg #[.slice none 0 0, .slice none 0 0, .int .i64 0, .int .i64 0, .int .i64 0, .int .i64 0], .bool false]) (by simp [results, Tryd.results41, go_sem, m0, m1, m2, m3, m4, m5]) rfl ?_
    exact .inr ⟨HNO.out, rfl, HB8.out⟩
  have HL1 := Lib.hid hL1
  obtain ⟨a5, o5, rfl, ha5, hc5⟩ := int_cells HO52.out.lst (by have := HHD.out; omega)
  have hh4 := HHD.out
  have H4 := Lib.hid (show FourS a5 o5 _ _ _ _ w2 from ⟨hc5 0 (by omega), hc5 1 (by omega), hc5 2 (by omega), hc5 3 (by omega)⟩)
  have HG5 := Lib.hid ha5
  have HO8 := Lib.hid (ho8.mono (T := fun i => W.heap.size ≤ i) (fun i h => by have := HS12.out; omega))
  clear ha5 hc5 hL1 ho8 hh4 HO52
  go_upto_region 9 with fail
  go_cut [0, 9] (fun u0 u9 wx => ∃ b, u0 = .slice (some ⟨g, 0, none⟩) n n ∧ u9 = .pointer (some ⟨b, 0, none⟩) ∧ Hid (PsBox W wx b A8 c8 (nmsI (it ls 1)) (it (nmsI (it ls 0)) 0) (it (nmsI (it ls 0)) 1) (it (nmsI (it ls 0)) 2) (it (nmsI (it ls 0)) 3)) ∧ Hid (Below w2.heap.size w2 wx ∧ w2.heap.size ≤ b))
  case first =>
    have HKd := Lib.hid (H4.out.next HG5.out (below_drewn w2))
    have HKa := Lib.hid (fun ob => H4.out.next HG5.out (below_adn w2 ob))
    have HKe := Lib.hid (fun ob => H4.out.next HG5.out (Below_next (below_drewn w2) (below_alloc (World.drew w2) ob)))
    go_region_held3 (fun w' => w'.cell? ⟨a5, o5, none⟩ = some (.int .i64 (it (nmsI (it ls 0)) 0)) ∧ w'.cell? ⟨a5, o5 + 1, none⟩ = some (.int .i64 (it (nmsI (it ls 0)) 1)) ∧ w'.cell? ⟨a5, o5 + 2, none⟩ = some (.int .i64 (it (nmsI (it ls 0)) 2)) ∧ w'.cell? ⟨a5, o5 + 3, none⟩ = some (.int .i64 (it (nmsI (it ls 0)) 3)))
      (first | (with_reducible exact HKd.out) | (with_reducible exact HKa.out _) | (with_reducible exact HKe.out _) | fail)
      (first
        | fail)
    all_goals
      go_wp2_with fail
      go_meet
      first
        | exact ⟨_, rfl, rfl, Lib.hid ((psBox_late 31 HC2.out HO8.out).next (below_drewn _)), Lib.hid ⟨below_adn w2 _, Nat.le_refl _⟩⟩
        | exact ⟨_, rfl, rfl, Lib.hid (psBox_late 31 (Below_next HC2.out (below_drewn w2)) (HO8.out.keepB (below_drewn w2))), Lib.hid ⟨Below_next (below_drewn w2) (below_alloc _ _), (below_drewn w2).size⟩⟩
  case rest =>
  obtain ⟨b6, rfl, rfl, HPB, HPX⟩ := hcut
  rename World => w3
  have hb3 := HPX.out.1
  have HB3 := Lib.hid (Below_next HB2.out hb3)
  have HC3 := Lib.hid (Below_next HC2.out hb3)
  have HA3 := Lib.hid (HA1.out.next HC3.out)
  have HT3 := Lib.hid (HT1.out.next HC3.out)
  have HM3 := Lib.hid (HM2.out.below hb3 HS2.out.1)
  have HS3 := Lib.hid (show w.heap.size < b6 ∧ b6 < w3.heap.size ∧ g < b6 ∧ g < w3.heap.size by have := HPX.out.2; have := HPB.out.lt; have := HS2.out; omega)
  have HSW := Lib.hid (show w.heap.size < W.heap.size by have := HS12.out; omega)
  clear hb3 HB2 HC2 HM2 HS2 H4 HG5 q0 q1 HC1 HO8 HS12
  generalize hr0 : it (nmsI (it ls 0)) 0 = r0 at HPB
  generalize hr1 : it (nmsI (it ls 0)) 1 = r1 at HPB
  generalize hr2 : it (nmsI (it ls 0)) 2 = r2 at HPB
  generalize hr3 : it (nmsI (it ls 0)) 3 = r3 at HPB
  have hwr : IntKind.i64.wrap ((n : Int) - 1) = (n : Int) - 1 := IntWalk.i64_in _ (by omega)
  have q2 : (2 : Int) ≤ (n : Int) - 1 := by omega
  have q3 : (n : Int) - 1 ≤ (n : Int) := by omega
  have q4 : ¬ (n : Int) - 2 = 0 := by omega
  go_wp2_with fail
  go_loopw [66] (fun i wr => ∃ k vE, k ≤ n - 3 ∧ i = .int .i64 (k : Nat) ∧ Hid (PsL nmsI (fun l => LineI l ∧ (nmsI l).length = 3) ls w3 b6 A8 c8 (nmsI (it ls 1)) r0 r1 r2 r3 k wr vE)) (fun i _ => (n - 3) - (intOf i).toNat)
  case atStart => exact ⟨0, .slice none 0 0, Nat.zero_le _, rfl, Lib.hid ⟨HPB.out.mem, World.ownsRow_nil w3 _ _ _, Only.refl _ _, fun j hj => absurd hj (Nat.not_lt_zero _)⟩⟩
  case round =>
    obtain ⟨k, vE, hk, rfl, HL⟩ := hrel
    have hbl : Below w.heap.size w3 wr := HL.out.only.below (by have := HS3.out; omega) (fun i hi => by have := HS3.out; rcases hi with rfl | hi <;> omega)
    have hbl2 : Below W.heap.size w3 wr := HL.out.only.below (by have := HC3.out.size; omega) (fun i hi => by have := HPB.out.ge; have := HC3.out.size; rcases hi with rfl | hi <;> omega)
    have HBk := Lib.hid (HB3.out.trans hbl)
    have HTk := Lib.hid (HT1.out.next (HC3.out.trans hbl2))
    have HSk := Lib.hid (show w3.heap.size ≤ wr.heap.size from HL.out.only.size)
    have HMk := Lib.hid (HM3.out.only HL.out.only (by have := HS3.out; omega) (by have := HS3.out; omega))
    have HGk := Lib.hid (HL.out.only.block g HS3.out.2.2.2 (by have := HS3.out; omega))
    clear hbl hbl2
    by_cases hlt : k < n - 3
    · have hlk : wr.cell? ⟨g, 2 + k, none⟩ = some (.string (toB' (it ls (2 + k)))) := (World.cell?_of_block (a := ⟨g, 2 + k, none⟩) HGk.out).trans (HA3.out.cell (2 + k) (by omega))
      have hzk : (toB' (it ls (2 + k))).size ≤ 1048576 := by
        have := HSZ.out _ (it_mem (xs := ls) (i := 2 + k) (by omega))
        show (it ls (2 + k)).toArray.size ≤ _
        rw [List.size_toArray]
        exact this
      have HMI := Lib.hid (HML.out k hlt)
      generalize hlg : it ls (2 + k) = lk at *
      have HWk := Lib.hid (wordAndNumbers_any (toB' lk) wr hzk HTk.out)
      rw [toB'_list] at HWk
      go_wp2_with fail
      refine HWk.out.mono ?_
      rintro e w4 ⟨hans, hb4⟩
      have HB4 := Lib.hid (Below_next HBk.out hb4)
      have HM4 := Lib.hid (HMk.out.below hb4 (by have := HS3.out; have := HSk.out; omega))
      have HB34 := Lib.hid hb4
      have HEA := Lib.hid (fun (q : ParI ls) => (each_it.1 q.each k (by rw [HN.out]; exact hlt)))
      rw [HMI.out] at HEA
      clear hb4 hlk HWk
      rcases hans with ⟨hLk, A9, c9, rfl, ho9⟩ | ⟨hLk, rfl⟩
      rotate_left
      · have HNO := Lib.hid (show ¬ ParI ls from fun q => hLk (HEA.out q).1)
        obtain ⟨m0, m1, m2, m3, m4, m5, mf⟩ := HM4.out
        go_wp2
        refine stop_body ⟨?_⟩
        intro w8 hw8
        have hm8 := HM4.out.all (.slice none 0 0) (.slice none 0 0) (.int .i64 0) (.int .i64 0) (.int .i64 0) (.int .i64 0)
        have hb8 := below_six HB4.out w.heap.size (Nat.le_refl _) (.slice none 0 0) (.slice none 0 0) (.int .i64 0) (.int .i64 0) (.int .i64 0) (.int .i64 0)
        rw [show put6 w4 w.heap.size (.slice none 0 0) (.slice none 0 0) (.int .i64 0) (.int .i64 0) (.int .i64 0) (.int .i64 0) = w8 from hw8.symm] at hm8 hb8
        have HB8 := Lib.hid hb8
        clear hw8 hb8 m0 m1 m2 m3 m4 m5 mf
        obtain ⟨m0, m1, m2, m3, m4, m5, mf⟩ := hm8
        refine bodyPost_ret (v := .tuple #[.agg #[.slice none 0 0, .slice none 0 0, .int .i64 0, .int .i64 0, .int .i64 0, .int .i64 0], .bool false]) (by simp [results, Tryd.results41, go_sem, m0, m1, m2, m3, m4, m5]) rfl ?_
        exact .inr ⟨HNO.out, rfl, HB8.out⟩
      by_cases h3' : (nmsI lk).length = 3
      rotate_left
      · have HNO := Lib.hid (show ¬ ParI ls from fun q => h3' (HEA.out q).2)
        have hh' : ((nmsI lk).length : Int) < 3 ∨ (3 : Int) < ((nmsI lk).length : Int) := by omega
        generalize (nmsI lk).length = h0 at hh'
        rcases hh' with hh' | hh'
        · obtain ⟨m0, m1, m2, m3, m4, m5, mf⟩ := HM4.out
          go_wp2
          refine stop_body ⟨?_⟩
          intro w8 hw8
          have hm8 := HM4.out.all (.slice none 0 0) (.slice none 0 0) (.int .i64 0) (.int .i64 0) (.int .i64 0) (.int .i64 0)
          have hb8 := below_six HB4.out w.heap.size (Nat.le_refl _) (.slice none 0 0) (.slice none 0 0) (.int .i64 0) (.int .i64 0) (.int .i64 0) (.int .i64 0)
          rw [show put6 w4 w.heap.size (.slice none 0 0) (.slice none 0 0) (.int .i64 0) (.int .i64 0) (.int .i64 0) (.int .i64 0) = w8 from hw8.symm] at hm8 hb8
          have HB8 := Lib.hid hb8
          clear hw8 hb8 m0 m1 m2 m3 m4 m5 mf
          obtain ⟨m0, m1, m2, m3, m4, m5, mf⟩ := hm8
          refine bodyPost_ret (v := .tuple #[.agg #[.slice none 0 0, .slice none 0 0, .int .i64 0, .int .i64 0, .int .i64 0, .int .i64 0], .bool false]) (by simp [results, Tryd.results41, go_sem, m0, m1, m2, m3, m4, m5]) rfl ?_
          exact .inr ⟨HNO.out, rfl, HB8.out⟩
        · obtain ⟨m0, m1, m2, m3, m4, m5, mf⟩ := HM4.out
          go_wp2
          refine stop_body ⟨?_⟩
          intro w8 hw8
          have hm8 := HM4.out.all (.slice none 0 0) (.slice none 0 0) (.int .i64 0) (.int .i64 0) (.int .i64 0) (.int .i64 0)
          have hb8 := below_six HB4.out w.heap.size (Nat.le_refl _) (.slice none 0 0) (.slice none 0 0) (.int .i64 0) (.int .i64 0) (.int .i64 0) (.int .i64 0)
          rw [show put6 w4 w.heap.size (.slice none 0 0) (.slice none 0 0) (.int .i64 0) (.int .i64 0) (.int .i64 0) (.int .i64 0) = w8 from hw8.symm] at hm8 hb8
          have HB8 := Lib.hid hb8
          clear hw8 hb8 m0 m1 m2 m3 m4 m5 mf
          obtain ⟨m0, m1, m2, m3, m4, m5, mf⟩ := hm8
          refine bodyPost_ret (v := .tuple #[.agg #[.slice none 0 0, .slice none 0 0, .int .i64 0, .int .i64 0, .int .i64 0, .int .i64 0], .bool false]) (by simp [results, Tryd.results41, go_sem, m0, m1, m2, m3, m4, m5]) rfl ?_
          exact .inr ⟨HNO.out, rfl, HB8.out⟩
      obtain ⟨a9, o9, rfl, hg9, ha9, hc9⟩ := own_int ho9 (by omega)
      have HS4 := Lib.hid (show w3.heap.size ≤ w4.heap.size ∧ b6 < wr.heap.size by have := HS3.out; have := HSk.out; have := HB34.out.size; omega)
      have HMm := Lib.hid (HL.out.mem.below HB34.out HS4.out.2)
      have HRow := Lib.hid (ownsRow_next HL.out.row HB34.out)
      have H3 := Lib.hid (show ThreeS a9 o9 _ _ _ w4 from ⟨hc9 0 (by omega), hc9 1 (by omega), hc9 2 (by omega)⟩)
      have HG9 := Lib.hid ha9
      have HN9 := Lib.hid (show a9 ≠ b6 by have := HS4.out; omega)
      have HF9 := Lib.hid (show ∀ kk, vE.ownBlock = some kk → kk ≠ a9 from fun kk e => by have := (HL.out.row.lt kk e).2; omega)
      have HE9 := Lib.hid (And.intro hLk h3')
      have hd6 := Nat.lt_of_lt_of_le HS4.out.2 HB34.out.size
      have LQ := Lib.hid (fun ob => Nat.le_trans HS4.out.1 (below_adn w4 ob).size)
      have LA9 := Lib.hid (fun ob => Nat.lt_of_lt_of_le HG9.out (below_adn w4 ob).size)
      have LB9 := Lib.hid (fun ob => (below_adn w4 ob).block a9 HG9.out)
      have LKa := Lib.hid (fun ob => H3.out.block (LB9.out ob))
      rw [h3']
      clear h3' hc9 ha9 hg9 hLk ho9
      go_upto_region 16 with fail
      obtain ⟨m0, m1, m2, m3, m4, m5, mf⟩ := HMm.out
      have HKd := Lib.hid (H3.out.block ((below_drewn w4).block a9 HG9.out))
      refine wp_region_held_drew (S := (fun w' => w'.cell? ⟨a9, o9, none⟩ = some (.int .i64 (it (nmsI lk) 0)) ∧ w'.cell? ⟨a9, o9 + 1, none⟩ = some (.int .i64 (it (nmsI lk) 1)) ∧ w'.cell? ⟨a9, o9 + 2, none⟩ = some (.int .i64 (it (nmsI lk) 2)))) (by kernel_rfl) ?_ (fun hHeld0 => ?_)
      · ((try dsimp only); exact HKd.out)
      refine wpAnyH_take (i := 0) (oi := _) (v := ?_) rfl (by kernel_rfl) (by kernel_rfl) (by kernel_rfl) (fun _ _ _ h => h) (Or.inl ⟨by rfl, ?_⟩) (by assumption) ?_
      rotate_left
      · (intro w hSw; (try dsimp only at hSw); go_simp; try with_reducible rfl)
      try simp only [Act.put, List.setIfInBounds_toArray, List.set_cons_zero, List.set_cons_succ, List.getElem_toArray, List.getElem_cons_zero]
      refine wpAnyH_take (i := 2) (oi := _) (v := ?_) rfl (by kernel_rfl) (by kernel_rfl) (by kernel_rfl) (fun _ _ _ h => h) (Or.inl ⟨by rfl, ?_⟩) (by assumption) ?_
      rotate_left
      · (intro w hSw; (try dsimp only at hSw); go_simp; try with_reducible rfl)
      try simp only [Act.put, List.setIfInBounds_toArray, List.set_cons_zero, List.set_cons_succ, List.getElem_toArray, List.getElem_cons_zero, List.getElem_cons_succ]
      refine wpAnyH_take (i := 3) (oi := _) (v := ?_) rfl (by kernel_rfl) (by kernel_rfl) (by kernel_rfl) (fun _ _ _ h => h) (Or.inl ⟨by rfl, ?_⟩) (by assumption) ?_
      rotate_left
      · (intro w hSw; (try dsimp only at hSw); go_simp; try with_reducible rfl)
      try simp only [Act.put, List.setIfInBounds_toArray, List.set_cons_zero, List.set_cons_succ, List.getElem_toArray, List.getElem_cons_zero, List.getElem_cons_succ]
      refine wpAnyH_take (i := 4) (oi := _) (v := ?_) rfl (by kernel_rfl) (by kernel_rfl) (by kernel_rfl) (fun _ _ _ h => h) (Or.inl ⟨by rfl, ?_⟩) (by assumption) ?_
      rotate_left
      · (intro w hSw; (try dsimp only at hSw); go_simp; try with_reducible rfl)
      try simp only [Act.put, List.setIfInBounds_toArray, List.set_cons_zero, List.set_cons_succ, List.getElem_toArray, List.getElem_cons_zero, List.getElem_cons_succ]
      refine wpAnyH_take (i := 5) (oi := _) (v := ?_) rfl (by kernel_rfl) (by kernel_rfl) (by kernel_rfl) (fun _ _ _ h => h) (Or.inl ⟨by rfl, ?_⟩) (by assumption) ?_
      rotate_left
      · (intro w hSw; (try dsimp only at hSw); go_simp; try with_reducible rfl)
      try simp only [Act.put, List.setIfInBounds_toArray, List.set_cons_zero, List.set_cons_succ, List.getElem_toArray, List.getElem_cons_zero, List.getElem_cons_succ]
      refine wpAnyH_take (i := 6) (oi := _) (v := ?_) rfl (by kernel_rfl) (by kernel_rfl) (by kernel_rfl) (fun _ _ _ h => h) (Or.inl ⟨by rfl, ?_⟩) (by assumption) ?_
      rotate_left
      · (intro w hSw; (try dsimp only at hSw); go_simp; try with_reducible rfl)
      try simp only [Act.put, List.setIfInBounds_toArray, List.set_cons_zero, List.set_cons_succ, List.getElem_toArray, List.getElem_cons_zero, List.getElem_cons_succ]
      refine wpAnyH_take (i := 7) (oi := _) (v := ?_) rfl (by kernel_rfl) (by kernel_rfl) (by kernel_rfl) (fun _ _ _ h => h) (Or.inl ⟨by rfl, ?_⟩) (by assumption) ?_
      rotate_left
      · (intro w hSw; (try dsimp only at hSw); go_simp; try with_reducible rfl)
      try simp only [Act.put, List.setIfInBounds_toArray, List.set_cons_zero, List.set_cons_succ, List.getElem_toArray, List.getElem_cons_zero, List.getElem_cons_succ]
      refine wpAnyH_take (i := 8) (oi := _) (v := ?_) rfl (by kernel_rfl) (by kernel_rfl) (by kernel_rfl) (fun _ _ _ h => h) (Or.inl ⟨by rfl, ?_⟩) (by assumption) ?_
      rotate_left
      · (intro w hSw; (try dsimp only at hSw); go_simp; try with_reducible rfl)
      try simp only [Act.put, List.setIfInBounds_toArray, List.set_cons_zero, List.set_cons_succ, List.getElem_toArray, List.getElem_cons_zero, List.getElem_cons_succ]
      refine wpAnyH_take (i := 9) (oi := _) (v := ?_) rfl (by kernel_rfl) (by kernel_rfl) (by kernel_rfl) (fun _ _ _ h => h) (Or.inl ⟨by rfl, ?_⟩) (by assumption) ?_
      rotate_left
      · (intro w hSw; (try dsimp only at hSw); go_simp; try with_reducible rfl)
      try simp only [Act.put, List.setIfInBounds_toArray, List.set_cons_zero, List.set_cons_succ, List.getElem_toArray, List.getElem_cons_zero, List.getElem_cons_succ]
      refine wpAnyH_take (i := 10) (oi := _) (v := ?_) rfl (by kernel_rfl) (by kernel_rfl) (by kernel_rfl) (fun _ _ _ h => h) (Or.inl ⟨by rfl, ?_⟩) (by assumption) ?_
      rotate_left
      · (intro w hSw; (try dsimp only at hSw); go_simp; try with_reducible rfl)
      try simp only [Act.put, List.setIfInBounds_toArray, List.set_cons_zero, List.set_cons_succ, List.getElem_toArray, List.getElem_cons_zero, List.getElem_cons_succ]
      refine wpAnyH_take (i := 11) (oi := _) (v := ?_) rfl (by kernel_rfl) (by kernel_rfl) (by kernel_rfl) (fun _ _ _ h => h) (Or.inl ⟨by rfl, ?_⟩) (by assumption) ?_
      rotate_left
      · (intro w hSw; (try dsimp only at hSw); go_simp; try with_reducible rfl)
      try simp only [Act.put, List.setIfInBounds_toArray, List.set_cons_zero, List.set_cons_succ, List.getElem_toArray, List.getElem_cons_zero, List.getElem_cons_succ]
      refine wpAnyH_take (i := 12) (oi := _) (v := ?_) rfl (by kernel_rfl) (by kernel_rfl) (by kernel_rfl) (fun _ _ _ h => h) (Or.inl ⟨by rfl, ?_⟩) (by assumption) ?_
      rotate_left
      · (intro w hSw; (try dsimp only at hSw); go_simp; try with_reducible rfl)
      try simp only [Act.put, List.setIfInBounds_toArray, List.set_cons_zero, List.set_cons_succ, List.getElem_toArray, List.getElem_cons_zero, List.getElem_cons_succ]
      refine wpAnyH_ready (rs := [1, 13]) (by kernel_rfl) (by simp) ?_
      refine AllReadyH.cons rfl (fun K hK => ?_) ?_
      · go_simp
        refine hK.out _ _ ?_ (fun hHeld1 => ?_)
        · ((try dsimp only); (first | (with_reducible exact HKd.out) | (with_reducible exact LKs.out _) | (with_reducible exact LKb.out) | (with_reducible exact LKa.out _) | fail))
        clear hK K
        refine wpAnyH_ready (rs := [13]) (by kernel_rfl) (by simp) ?_
        refine AllReadyH.cons rfl (fun K hK => ?_) ?_
        · go_simp
          refine hK.out _ _ ?_ (fun hHeld2 => ?_)
          · ((try dsimp only); (first | (with_reducible exact HKd.out) | (with_reducible exact LKs.out _) | (with_reducible exact LKb.out) | (with_reducible exact LKa.out _) | fail))
          clear hK K
          refine wpAnyH_ready (rs := [14]) (by kernel_rfl) (by simp) ?_
          refine AllReadyH.cons rfl (fun K hK => ?_) ?_
          · refine step_append_srcN _ (by rfl) (.tmp 85) (.tmp 97) 29 (by rfl) w3.heap.size 64 i0 (.agg #[.string ⟨#[]⟩, .int .i64 0, .int .i64 0, .int .i64 0]) 4 40 (by decide) Tryd.underlying29 HZ.out.1 HZ.out.2.1 HZ.out.2.2.1 HZ.out.2.2.2 rfl vE k _ (by rfl) (ownsRow_next HRow.out (below_adn w4 _)) (some ⟨w4.heap.size, 0, none⟩) 1 1 ([elN nmsI lk].flatMap Flat.cells) (by rfl) (flat_len [elN nmsI lk]) (src_newd w4 (elN nmsI lk) _) (el_one _) (by unfold maxLen; omega) (by omega) (LQ.out _) ?_; intro vb wb hownb hgrowb hatb; have hbc := Below.grown ((below_adn w4 _).mono HS4.out.1) hgrowb (LQ.out _) (fun kk e => (HRow.out.lt kk e).1); have hbk := (hgrowb.block a9 (LA9.out _) (fun e => HF9.out a9 e.symm rfl)).trans (LB9.out _); have LKb := Lib.hid (H3.out.block hbk); have LKs := Lib.hid (fun u => H3.out.block ((((Only.refl (fun i => i = b6) wb).setCell (p := ⟨b6, 0, none⟩) rfl u).block a9 (Nat.lt_of_lt_of_le (LA9.out _) hgrowb.size) HN9.out).trans hbk)); have LC := Lib.hid hbc; have LO := Lib.hid hownb; obtain ⟨gE, cE, rfl, hgE1, hgE2⟩ := row_pos hownb (Nat.succ_pos _); clear hgE1 hgE2; obtain ⟨p0, p1, p2, p3, p4, p5, pf⟩ := HMm.out.below hbc HS3.out.2.1; clear hownb hgrowb hatb hbc hbk
            refine hK.out _ _ ?_ (fun hHeld3 => ?_)
            · ((try dsimp only); (first | (with_reducible exact HKd.out) | (with_reducible exact LKs.out _) | (with_reducible exact LKb.out) | (with_reducible exact LKa.out _) | fail))
            clear hK K
            refine wpAnyH_take (i := 15) (oi := _) (v := ?_) rfl (by kernel_rfl) (by kernel_rfl) (by kernel_rfl) (fun _ _ _ h => h) (Or.inl ⟨by rfl, ?_⟩) (by assumption) ?_
            rotate_left
            · (intro w hSw; (try dsimp only at hSw); go_simp; try with_reducible rfl)
            try simp only [Act.put, List.setIfInBounds_toArray, List.set_cons_zero, List.set_cons_succ, List.getElem_toArray, List.getElem_cons_zero, List.getElem_cons_succ]
            refine wpAnyH_ready (rs := [16]) (by kernel_rfl) (by simp) ?_
            refine AllReadyH.cons rfl (fun K hK => ?_) ?_
            · go_simp
              refine hK.out _ _ ?_ (fun hHeld4 => ?_)
              · ((try dsimp only); (first | (with_reducible exact HKd.out) | (with_reducible exact LKs.out _) | (with_reducible exact LKb.out) | (with_reducible exact LKa.out _) | fail))
              clear hK K
              refine wpAnyH_done (by kernel_rfl) ?_ _
              go_wp2
              go_roundw
              case rel => exact ⟨k + 1, _, by omega, by go_num, Lib.hid (psL_next HL.out HB34.out LC.out HS3.out.2.1 LO.out (by rw [HN.out]; omega) HMI.out HE9.out)⟩
              case measure => simp [intOf]; omega
            exact AllReadyH.nil
          exact AllReadyH.nil
        exact AllReadyH.nil
      refine AllReadyH.cons rfl (fun K hK => ?_) ?_
      · go_simp
        refine hK.out _ _ ?_ (fun hHeld1 => ?_)
        · ((try dsimp only); (first | (with_reducible exact HKd.out) | (with_reducible exact LKs.out _) | (with_reducible exact LKb.out) | (with_reducible exact LKa.out _) | fail))
        clear hK K
        refine wpAnyH_ready (rs := [1]) (by kernel_rfl) (by simp) ?_
        refine AllReadyH.cons rfl (fun K hK => ?_) ?_
        · go_simp
          refine hK.out _ _ ?_ (fun hHeld2 => ?_)
          · ((try dsimp only); (first | (with_reducible exact HKd.out) | (with_reducible exact LKs.out _) | (with_reducible exact LKb.out) | (with_reducible exact LKa.out _) | fail))
          clear hK K
          refine wpAnyH_ready (rs := [14]) (by kernel_rfl) (by simp) ?_
          refine AllReadyH.cons rfl (fun K hK => ?_) ?_
          · refine step_append_srcN _ (by rfl) (.tmp 85) (.tmp 97) 29 (by rfl) w3.heap.size 64 i0 (.agg #[.string ⟨#[]⟩, .int .i64 0, .int .i64 0, .int .i64 0]) 4 40 (by decide) Tryd.underlying29 HZ.out.1 HZ.out.2.1 HZ.out.2.2.1 HZ.out.2.2.2 rfl vE k _ (by rfl) (ownsRow_next HRow.out (below_adn w4 _)) (some ⟨w4.heap.size, 0, none⟩) 1 1 ([elN nmsI lk].flatMap Flat.cells) (by rfl) (flat_len [elN nmsI lk]) (src_newd w4 (elN nmsI lk) _) (el_one _) (by unfold maxLen; omega) (by omega) (LQ.out _) ?_; intro vb wb hownb hgrowb hatb; have hbc := Below.grown ((below_adn w4 _).mono HS4.out.1) hgrowb (LQ.out _) (fun kk e => (HRow.out.lt kk e).1); have hbk := (hgrowb.block a9 (LA9.out _) (fun e => HF9.out a9 e.symm rfl)).trans (LB9.out _); have LKb := Lib.hid (H3.out.block hbk); have LKs := Lib.hid (fun u => H3.out.block ((((Only.refl (fun i => i = b6) wb).setCell (p := ⟨b6, 0, none⟩) rfl u).block a9 (Nat.lt_of_lt_of_le (LA9.out _) hgrowb.size) HN9.out).trans hbk)); have LC := Lib.hid hbc; have LO := Lib.hid hownb; obtain ⟨gE, cE, rfl, hgE1, hgE2⟩ := row_pos hownb (Nat.succ_pos _); clear hgE1 hgE2; obtain ⟨p0, p1, p2, p3, p4, p5, pf⟩ := HMm.out.below hbc HS3.out.2.1; clear hownb hgrowb hatb hbc hbk
            refine hK.out _ _ ?_ (fun hHeld3 => ?_)
            · ((try dsimp only); (first | (with_reducible exact HKd.out) | (with_reducible exact LKs.out _) | (with_reducible exact LKb.out) | (with_reducible exact LKa.out _) | fail))
            clear hK K
            refine wpAnyH_take (i := 15) (oi := _) (v := ?_) rfl (by kernel_rfl) (by kernel_rfl) (by kernel_rfl) (fun _ _ _ h => h) (Or.inl ⟨by rfl, ?_⟩) (by assumption) ?_
            rotate_left
            · (intro w hSw; (try dsimp only at hSw); go_simp; try with_reducible rfl)
            try simp only [Act.put, List.setIfInBounds_toArray, List.set_cons_zero, List.set_cons_succ, List.getElem_toArray, List.getElem_cons_zero, List.getElem_cons_succ]
            refine wpAnyH_ready (rs := [16]) (by kernel_rfl) (by simp) ?_
            refine AllReadyH.cons rfl (fun K hK => ?_) ?_
            · go_simp
              refine hK.out _ _ ?_ (fun hHeld4 => ?_)
              · ((try dsimp only); (first | (with_reducible exact HKd.out) | (with_reducible exact LKs.out _) | (with_reducible exact LKb.out) | (with_reducible exact LKa.out _) | fail))
              clear hK K
              refine wpAnyH_done (by kernel_rfl) ?_ _
              go_wp2
              go_roundw
              case rel => exact ⟨k + 1, _, by omega, by go_num, Lib.hid (psL_next HL.out HB34.out LC.out HS3.out.2.1 LO.out (by rw [HN.out]; omega) HMI.out HE9.out)⟩
              case measure => simp [intOf]; omega
            exact AllReadyH.nil
          exact AllReadyH.nil
        exact AllReadyH.nil
      exact AllReadyH.nil
    · obtain rfl : k = n - 3 := by omega
      have hmn := HN.out
      obtain ⟨x, hx⟩ : ∃ x, x = parN nmsI ls := ⟨_, rfl⟩
      have hxl : x.els.length = n - 3 := by rw [hx, ← hmn]; exact List.length_map ..
      have hrow : wr.ownsRow w3.heap.size 64 4 vE x.els.length (x.els.flatMap Flat.cells) := by
        have h := HL.out.row
        rw [hxl, hx]
        show wr.ownsRow w3.heap.size 64 4 vE (n - 3) (((midL ls).map (elN nmsI)).flatMap Flat.cells)
        rw [← elsTo_all nmsI ls, hmn]
        exact h
      obtain ⟨AE, cE, hvE, hoE⟩ := own_els x.els hrow
      subst hvE
      have HMx : Hid (CdMem wr b6 (.slice AE x.els.length cE) (.slice A8 x.lims.length c8) (.int .i64 x.rep) (.int .i64 x.bon) (.int .i64 x.kee) (.int .i64 x.fal)) := Lib.hid (by
        have h := HL.out.mem
        rw [← hr0, ← hr1, ← hr2, ← hr3] at h
        rw [hx] at h ⊢
        exact h)
      have HE := Lib.hid hoE
      have HLm : Hid (Owned (fun i => (W.heap.size ≤ i ∧ i ≠ b6) ∧ i < w3.heap.size) wr A8 x.lims) := Lib.hid (by
        rw [hx]
        exact own_keepB HPB.out.own HL.out.only (fun i h => h.2))
      have HPI := Lib.hid (show ParI ls from ⟨by omega, HL0.out, HHD.out, HL1.out, each_it.2 (fun j hj => HL.out.each j (by rw [hmn] at hj; exact hj))⟩)
      have HXX := Lib.hid hx
      clear hx hxl hrow hoE hmn
      obtain ⟨n0, n1, n2, n3, n4, n5, nf⟩ := HMx.out
      obtain ⟨m0, m1, m2, m3, m4, m5, mf⟩ := HMk.out
      go_wp2
      refine stop_body ⟨?_⟩
      intro w8 hw8
      have hm8 := HMk.out.all (.slice AE x.els.length cE) (.slice A8 x.lims.length c8) (.int .i64 x.rep) (.int .i64 x.bon) (.int .i64 x.kee) (.int .i64 x.fal)
      have hb8 := below_six HBk.out w.heap.size (Nat.le_refl _) (.slice AE x.els.length cE) (.slice A8 x.lims.length c8) (.int .i64 x.rep) (.int .i64 x.bon) (.int .i64 x.kee) (.int .i64 x.fal)
      have hk8 := only_six wr w.heap.size (.slice AE x.els.length cE) (.slice A8 x.lims.length c8) (.int .i64 x.rep) (.int .i64 x.bon) (.int .i64 x.kee) (.int .i64 x.fal)
      rw [show put6 wr w.heap.size (.slice AE x.els.length cE) (.slice A8 x.lims.length c8) (.int .i64 x.rep) (.int .i64 x.bon) (.int .i64 x.kee) (.int .i64 x.fal) = w8 from hw8.symm] at hm8 hb8 hk8
      have HB8 := Lib.hid hb8
      have HE8 := Lib.hid (HE.out.keep hk8 (fun i h1 h2 => by have := HS3.out; omega))
      have HL8 := Lib.hid (HLm.out.keep hk8 (fun i h1 h2 => by have := HSW.out; omega))
      clear hw8 hb8 hk8 m0 m1 m2 m3 m4 m5 mf n0 n1 n2 n3 n4 n5 nf
      obtain ⟨m0, m1, m2, m3, m4, m5, mf⟩ := hm8
      refine bodyPost_ret (v := .tuple #[.agg #[.slice AE x.els.length cE, .slice A8 x.lims.length c8, .int .i64 x.rep, .int .i64 x.bon, .int .i64 x.kee, .int .i64 x.fal], .bool true]) (by simp [results, Tryd.results41, go_sem, m0, m1, m2, m3, m4, m5]) rfl ?_
      rw [← HXX.out]
      exact .inl ⟨HPI.out, ⟨AE, cE, A8, c8, w3.heap.size, rfl, HE8.out, HL8.out.mono (fun i h => ⟨by have := HSW.out; omega, h.2⟩), by have := HS3.out; omega⟩, HB8.out⟩
end Go.Proofs.YtnlcdfaojcnkpaaDoor
