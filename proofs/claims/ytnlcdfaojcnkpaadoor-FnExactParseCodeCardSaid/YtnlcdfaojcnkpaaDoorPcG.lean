/- The walk of the model's ParseCode. -/
import Derived.Test.YtnlcdfaojcnkpaaDoorPcF
import Derived.Deep.CutBlock
import Derived.Deep.RegionHeldLaw
import Derived.Outline
import Derived.Deep.DeepCutAuto
namespace Go.Proofs.YtnlcdfaojcnkpaaDoor
open Go.ChangeShapes Go.WideShapes Go.ChangeAt Go.RowKit Go.PlainAid Go.Sort
set_option linter.unusedVariables false

theorem psS_no1 {s : ByteArray} (h : ¬ ParS (splitL 10 s.data.toList)) : ¬ IsTx s := fun q => h ((isTx_S s).1 q).1
theorem words_pos (l : List UInt8) : (0 : Int) < ((splitL 32 l).length : Int) := by
  have := split_pos 32 l []
  unfold splitL
  omega
def toB' (l : List UInt8) : ByteArray := ⟨l.toArray⟩
theorem toB'_list (l : List UInt8) : (toB' l).data.toList = l := rfl
theorem int_cells {w : World} {A : Option Addr} {xs : List Int} (h : Lst w w.heap.size A xs) (hp : 0 < xs.length) : ∃ b o, A = some ⟨b, o, none⟩ ∧ b < w.heap.size ∧ ∀ i, i < xs.length → w.cell? ⟨b, o + i, none⟩ = some (.int .i64 (it xs i)) := h.int hp
def SevenS (g a o : Nat) (v v0 v1 v2 v3 : Value) (w : World) : Prop := w.cell? ⟨g, 1, none⟩ = some v ∧ w.cell? ⟨a, o, none⟩ = some v0 ∧ w.cell? ⟨a, o + 1, none⟩ = some v1 ∧ w.cell? ⟨a, o + 2, none⟩ = some v2 ∧ w.cell? ⟨a, o + 3, none⟩ = some v3
theorem SevenS.next {g a o : Nat} {v v0 v1 v2 v3 : Value} {w w' : World} (h : SevenS g a o v v0 v1 v2 v3 w) (hg : g < w.heap.size) (ha : a < w.heap.size) (hb : Below w.heap.size w w') :
    w'.cell? ⟨g, 1, none⟩ = some v ∧ w'.cell? ⟨a, o, none⟩ = some v0 ∧ w'.cell? ⟨a, o + 1, none⟩ = some v1 ∧ w'.cell? ⟨a, o + 2, none⟩ = some v2 ∧ w'.cell? ⟨a, o + 3, none⟩ = some v3 := by
  obtain ⟨h0, h1, h2, h3, h4⟩ := h
  exact ⟨(hb.cell (p := ⟨g, 1, none⟩) hg).trans h0, (hb.cell (p := ⟨a, o, none⟩) ha).trans h1, (hb.cell (p := ⟨a, o + 1, none⟩) ha).trans h2, (hb.cell (p := ⟨a, o + 2, none⟩) ha).trans h3, (hb.cell (p := ⟨a, o + 3, none⟩) ha).trans h4⟩
theorem SevenS.put {g a o b : Nat} {v v0 v1 v2 v3 : Value} {w w' : World} (h : SevenS g a o v v0 v1 v2 v3 w) (hg : g < w.heap.size) (ha : a < w.heap.size) (hb : Below w.heap.size w w') (h1 : g ≠ b) (h2 : a ≠ b) (u0 u1 u2 u3 u4 u5 : Value) :
    (put6 w' b u0 u1 u2 u3 u4 u5).cell? ⟨g, 1, none⟩ = some v ∧ (put6 w' b u0 u1 u2 u3 u4 u5).cell? ⟨a, o, none⟩ = some v0 ∧ (put6 w' b u0 u1 u2 u3 u4 u5).cell? ⟨a, o + 1, none⟩ = some v1 ∧ (put6 w' b u0 u1 u2 u3 u4 u5).cell? ⟨a, o + 2, none⟩ = some v2 ∧ (put6 w' b u0 u1 u2 u3 u4 u5).cell? ⟨a, o + 3, none⟩ = some v3 := by
  obtain ⟨e0, e1, e2, e3, e4⟩ := h.next hg ha hb
  have k := only_six w' b u0 u1 u2 u3 u4 u5
  have kg := k.block g (Nat.lt_of_lt_of_le hg hb.size) h1
  have ka := k.block a (Nat.lt_of_lt_of_le ha hb.size) h2
  exact ⟨(World.cell?_of_block (a := ⟨g, 1, none⟩) kg).trans e0, (World.cell?_of_block (a := ⟨a, o, none⟩) ka).trans e1, (World.cell?_of_block (a := ⟨a, o + 1, none⟩) ka).trans e2, (World.cell?_of_block (a := ⟨a, o + 2, none⟩) ka).trans e3, (World.cell?_of_block (a := ⟨a, o + 3, none⟩) ka).trans e4⟩
/-- What the loop over a code's lines keeps. -/
structure PsL (nms : List UInt8 → List Int) (Q : List UInt8 → Prop) (ls : List (List UInt8)) (W3 : World) (b6 : Nat) (A : Option Addr) (c : Nat) (ns : List Int) (r0 r1 r2 r3 : Int) (k : Nat) (wr : World) (vE : Value) : Prop where
  mem : CdMem wr b6 vE (.slice A ns.length c) (.int .i64 r0) (.int .i64 r1) (.int .i64 r2) (.int .i64 r3)
  row : wr.ownsRow W3.heap.size 64 4 vE k ((elsTo nms ls k).flatMap Flat.cells)
  only : Only (fun i => i = b6 ∨ W3.heap.size ≤ i) W3 wr
  each : ∀ j, j < k → Q (it (midL ls) j)

theorem own_int {w : World} {B : Nat} {A : Option Addr} {xs : List Int} (h : Owned (fun i => B ≤ i) w A xs) (hp : 0 < xs.length) : ∃ b o, A = some ⟨b, o, none⟩ ∧ B ≤ b ∧ b < w.heap.size ∧ ∀ i, i < xs.length → w.cell? ⟨b, o + i, none⟩ = some (.int .i64 (it xs i)) := by
  obtain ⟨g, o, rfl, h1, h2, _⟩ := h hp
  obtain ⟨b, o', e, _, h4⟩ := int_cells h.lst hp
  have e' := Option.some.inj e
  injection e' with e1 e2
  subst e1 e2
  exact ⟨g, o, rfl, h1, h2, h4⟩
def ThreeS (a o : Nat) (v0 v1 v2 : Value) (w : World) : Prop := w.cell? ⟨a, o, none⟩ = some v0 ∧ w.cell? ⟨a, o + 1, none⟩ = some v1 ∧ w.cell? ⟨a, o + 2, none⟩ = some v2
theorem ThreeS.block {a o : Nat} {v0 v1 v2 : Value} {w w' : World} (h : ThreeS a o v0 v1 v2 w) (hb : w'.heap[a]? = w.heap[a]?) : w'.cell? ⟨a, o, none⟩ = some v0 ∧ w'.cell? ⟨a, o + 1, none⟩ = some v1 ∧ w'.cell? ⟨a, o + 2, none⟩ = some v2 :=
  ⟨(World.cell?_of_block (a := ⟨a, o, none⟩) hb).trans h.1, (World.cell?_of_block (a := ⟨a, o + 1, none⟩) hb).trans h.2.1, (World.cell?_of_block (a := ⟨a, o + 2, none⟩) hb).trans h.2.2⟩
theorem Only.of_belowS {S : Nat → Prop} {B : Nat} {w w' : World} (h : Below B w w') (hS : ∀ k, k < w.heap.size → ¬ S k → k < B) : Only S w w' :=
  ⟨h.os, h.tape, h.output, h.size, fun k hk hs => h.block k (hS k hk hs)⟩
theorem ownsRow_only {S : Nat → Prop} {w w' : World} {B sz n : Nat} {e : TypeId} {v : Value} {xs : List Value} (h : w.ownsRow B e sz v n xs) (k : Only S w w') (hS : ∀ i, B ≤ i → ¬ S i) : w'.ownsRow B e sz v n xs := by
  refine ⟨h.1, ?_⟩
  rcases h.2 with h0 | ⟨g, cap, cur, rfl, h2, h3, h4⟩
  · exact .inl h0
  · exact .inr ⟨g, cap, cur, rfl, h2, by rw [k.block g (h.lt g rfl).2 (hS g h2)]; exact h3, h4⟩
theorem own_keepB {S : Nat → Prop} {w w' : World} {A : Option Addr} {xs : List Int} {b6 : Nat} (h : Owned S w A xs) (hk : Only (fun i => i = b6 ∨ w.heap.size ≤ i) w w') (hb : ∀ i, S i → i ≠ b6) : Owned (fun i => S i ∧ i < w.heap.size) w' A xs := fun hp => by
  obtain ⟨g, o, rfl, h1, h2, h3⟩ := h hp
  exact ⟨g, o, rfl, ⟨h1, h2⟩, Nat.lt_of_lt_of_le h2 hk.size, h3.block (hk.block g h2 (fun e => by rcases e with e | e; exact hb g h1 e; omega))⟩
theorem text_eq' {a b : ByteArray} (h : a = b) : (a.toList == b.toList) = true := by rw [h]; simp
theorem text_ne' {a b : ByteArray} (h : ¬ a = b) : (!a.toList == b.toList) = true := by
  rw [Go.ByteArray.toList_eq, Go.ByteArray.toList_eq, Bool.not_eq_true', beq_eq_false_iff_ne]
  exact fun e => h (ByteArray.ext (Array.ext' e))
theorem psL_next {nms : List UInt8 → List Int} {Q : List UInt8 → Prop} {ls : List (List UInt8)} {W3 : World} {b6 : Nat} {A : Option Addr} {c : Nat} {ns : List Int} {r0 r1 r2 r3 : Int} {k : Nat} {wr : World} {vE : Value} {w4 wb : World} {vb : Value} {lk : List UInt8}
    (HL : PsL nms Q ls W3 b6 A c ns r0 r1 r2 r3 k wr vE) (hb4 : Below wr.heap.size wr w4) (hbc : Below W3.heap.size w4 wb) (h6 : b6 < W3.heap.size)
    (hrow : wb.ownsRow W3.heap.size 64 4 vb (k + 1) ((elsTo nms ls k).flatMap Flat.cells ++ [elN nms lk].flatMap Flat.cells)) (hk : k < (midL ls).length) (he : it (midL ls) k = lk) (hq : Q lk) :
    PsL nms Q ls W3 b6 A c ns r0 r1 r2 r3 (k + 1) (wb.setCell ⟨b6, 0, none⟩ vb) vb := by
  have hw := HL.only.size
  have hm := (HL.mem.below hb4 (by omega)).below hbc h6
  have ho : Only (fun i => i = b6 ∨ W3.heap.size ≤ i) wr w4 := Only.of_below hb4 (Nat.le_refl _)
  have ho2 : Only (fun i => i = b6 ∨ W3.heap.size ≤ i) w4 wb := Only.of_belowS hbc (fun i _ hs => by omega)
  refine ⟨hm.set0 vb, ?_, ((HL.only.trans ho).trans ho2).setCell (p := ⟨b6, 0, none⟩) (.inl rfl) vb, ?_⟩
  · rw [elsTo_next hk, List.flatMap_append, he]
    exact ownsRow_only hrow ((Only.refl (fun i => i = b6) wb).setCell (p := ⟨b6, 0, none⟩) rfl vb) (fun i hi e => by subst e; omega)
  · intro j hj
    rcases Nat.lt_or_ge j k with h1 | h1
    · exact HL.each j h1
    · obtain rfl : j = k := by omega
      rw [he]
      exact hq

set_option maxHeartbeats 4000000 in
set_option maxRecDepth 20000 in
theorem sParse_any (s : ByteArray) (w : World) (hs : s.size ≤ 1048576) :
    Calls Tryd.prog 12 #[.string s] w (PcAns s w) := by
  unfold PcAns
  obtain ⟨i0, hi, hz0, hz1, hz2⟩ := info_parts Tryd.infoEl
  have HZ := Lib.hid (And.intro hi (And.intro hz0 (And.intro hz1 hz2)))
  clear hi hz0 hz1 hz2
  have HTS := Lib.hid (isTx_S s)
  have HTC := Lib.hid (fun h => txC_S (s := s) h)
  have hfew := split_few' 10 s
  have hpos := split_some 10 s
  have HSZ := Lib.hid (fun l h => split_size (c := 10) (s := s) (l := l) h)
  have HSP := Lib.hid (fun W => l1Split_any s 10 W hs (by omega) (by omega))
  generalize splitL 10 s.data.toList = ls at *
  go_enter Tryd.func12, Tryd.ntmps12
  go_wp2_with fail
  generalize hW : World.alloc w _ = W
  have hB : Below w.heap.size w W := by
    rw [← hW]
    go_grown
  have hS : W.heap.size = w.heap.size + 1 := by rw [← hW]; simp
  have hM : CdMem W w.heap.size (.slice none 0 0) (.slice none 0 0) (.int .i64 0) (.int .i64 0) (.int .i64 0) (.int .i64 0) := by
    rw [← hW]
    exact cdMem_new _ _ _ rfl _ _ _ _ _ _
  clear hW
  refine (HSP.out W).mono ?_
  rintro e w1 ⟨v, rfl, ho, hb⟩
  obtain ⟨g, cap, rfl, hc1, hc2, hg, hA⟩ := row_str ho hpos
  unfold maxLen at hc2
  have HA := Lib.hid hA
  have HB1 := Lib.hid (Below_next hB hb)
  have HM1 := Lib.hid (hM.below hb (by omega))
  have HS1 := Lib.hid (show w.heap.size < g ∧ w.heap.size < w1.heap.size by have := hb.size; omega)
  clear ho hb hA hB hM hS HSP
  have HN := Lib.hid (show (4 ≤ ls.length → (midL ls).length = ls.length - 3) from fun h => mid_len (by omega))
  have HML := Lib.hid (fun k h => mid_it (ls := ls) (k := k) h)
  generalize hn : ls.length = n at *
  by_cases h4 : n < 4
  · have HNO := Lib.hid (show ¬ IsTx s from fun q => by have := (HTS.out.1 q).1.lo; omega)
    obtain ⟨m0, m1, m2, m3, m4, m5, mf⟩ := HM1.out
    go_wp2
    refine stop_body ⟨?_⟩
    intro w8 hw8
    have hm8 := HM1.out.all (.slice none 0 0) (.slice none 0 0) (.int .i64 0) (.int .i64 0) (.int .i64 0) (.int .i64 0)
    have hb8 := below_six HB1.out w.heap.size (Nat.le_refl _) (.slice none 0 0) (.slice none 0 0) (.int .i64 0) (.int .i64 0) (.int .i64 0) (.int .i64 0)
    rw [show put6 w1 w.heap.size (.slice none 0 0) (.slice none 0 0) (.int .i64 0) (.int .i64 0) (.int .i64 0) (.int .i64 0) = w8 from hw8.symm] at hm8 hb8
    have HB8 := Lib.hid hb8
    clear hw8 hb8 m0 m1 m2 m3 m4 m5 mf
    obtain ⟨m0, m1, m2, m3, m4, m5, mf⟩ := hm8
    refine bodyPost_ret (v := .tuple #[.agg #[.slice none 0 0, .slice none 0 0, .int .i64 0, .int .i64 0, .int .i64 0, .int .i64 0], .bool false]) (by simp [results, Tryd.results12, go_sem, m0, m1, m2, m3, m4, m5]) rfl ?_
    exact .inr ⟨HNO.out, rfl, HB8.out⟩
  by_cases h27 : 27 < n
  · have HNO := Lib.hid (show ¬ IsTx s from fun q => by have := (HTS.out.1 q).1.hi; omega)
    obtain ⟨m0, m1, m2, m3, m4, m5, mf⟩ := HM1.out
    go_wp2
    refine stop_body ⟨?_⟩
    intro w8 hw8
    have hm8 := HM1.out.all (.slice none 0 0) (.slice none 0 0) (.int .i64 0) (.int .i64 0) (.int .i64 0) (.int .i64 0)
    have hb8 := below_six HB1.out w.heap.size (Nat.le_refl _) (.slice none 0 0) (.slice none 0 0) (.int .i64 0) (.int .i64 0) (.int .i64 0) (.int .i64 0)
    rw [show put6 w1 w.heap.size (.slice none 0 0) (.slice none 0 0) (.int .i64 0) (.int .i64 0) (.int .i64 0) (.int .i64 0) = w8 from hw8.symm] at hm8 hb8
    have HB8 := Lib.hid hb8
    clear hw8 hb8 m0 m1 m2 m3 m4 m5 mf
    obtain ⟨m0, m1, m2, m3, m4, m5, mf⟩ := hm8
    refine bodyPost_ret (v := .tuple #[.agg #[.slice none 0 0, .slice none 0 0, .int .i64 0, .int .i64 0, .int .i64 0, .int .i64 0], .bool false]) (by simp [results, Tryd.results12, go_sem, m0, m1, m2, m3, m4, m5]) rfl ?_
    exact .inr ⟨HNO.out, rfl, HB8.out⟩
  have hl0 : w1.cell? ⟨g, 0, none⟩ = some (.string (toB' (it ls 0))) := HA.out.cell 0 (by omega)
  have hz0 : (toB' (it ls 0)).size ≤ 1048576 := by
    have := HSZ.out _ (it_mem (xs := ls) (i := 0) (by omega))
    show (it ls 0).toArray.size ≤ _
    rw [List.size_toArray]
    omega
  have hz1 : (toB' (it ls 1)).size ≤ 1048576 := by
    have := HSZ.out _ (it_mem (xs := ls) (i := 1) (by omega))
    show (it ls 1).toArray.size ≤ _
    rw [List.size_toArray]
    omega
  have HZ1 := Lib.hid hz1
  clear hz1
  go_wp2_with fail
  refine (cdNumbers_any (toB' (it ls 0)) w1 hz0).mono ?_
  rintro e w2 ⟨⟨A5, c5, rfl, ho5⟩, hb2⟩
  rw [toB'_list] at ho5
  rw [toB'_list]
  have HM2 := Lib.hid (HM1.out.below hb2 HS1.out.2)
  have HB2 := Lib.hid (Below_next HB1.out hb2)
  have HA2 := Lib.hid (HA.out.next hb2)
  have HS2 := Lib.hid (show w.heap.size < w2.heap.size ∧ g < w2.heap.size by have := hb2.size; have := HS1.out; have := HA.out.lt; omega)
  have HO5 := Lib.hid ho5.lst
  clear hb2 ho5 hl0 hz0 HA HM1 HB1 HS1
  by_cases hh : (nmsS (it ls 0)).length = 4
  rotate_left
  · have HNO := Lib.hid (show ¬ IsTx s from fun q => hh (HTS.out.1 q).1.head)
    have hh' : ((nmsS (it ls 0)).length : Int) < 4 ∨ (4 : Int) < ((nmsS (it ls 0)).length : Int) := by omega
    generalize (nmsS (it ls 0)).length = h0 at hh'
    rcases hh' with hh' | hh'
    · obtain ⟨m0, m1, m2, m3, m4, m5, mf⟩ := HM2.out
      go_wp2
      refine stop_body ⟨?_⟩
      intro w8 hw8
      have hm8 := HM2.out.all (.slice none 0 0) (.slice none 0 0) (.int .i64 0) (.int .i64 0) (.int .i64 0) (.int .i64 0)
      have hb8 := below_six HB2.out w.heap.size (Nat.le_refl _) (.slice none 0 0) (.slice none 0 0) (.int .i64 0) (.int .i64 0) (.int .i64 0) (.int .i64 0)
      rw [show put6 w2 w.heap.size (.slice none 0 0) (.slice none 0 0) (.int .i64 0) (.int .i64 0) (.int .i64 0) (.int .i64 0) = w8 from hw8.symm] at hm8 hb8
      have HB8 := Lib.hid hb8
      clear hw8 hb8 m0 m1 m2 m3 m4 m5 mf
      obtain ⟨m0, m1, m2, m3, m4, m5, mf⟩ := hm8
      refine bodyPost_ret (v := .tuple #[.agg #[.slice none 0 0, .slice none 0 0, .int .i64 0, .int .i64 0, .int .i64 0, .int .i64 0], .bool false]) (by simp [results, Tryd.results12, go_sem, m0, m1, m2, m3, m4, m5]) rfl ?_
      exact .inr ⟨HNO.out, rfl, HB8.out⟩
    · obtain ⟨m0, m1, m2, m3, m4, m5, mf⟩ := HM2.out
      go_wp2
      refine stop_body ⟨?_⟩
      intro w8 hw8
      have hm8 := HM2.out.all (.slice none 0 0) (.slice none 0 0) (.int .i64 0) (.int .i64 0) (.int .i64 0) (.int .i64 0)
      have hb8 := below_six HB2.out w.heap.size (Nat.le_refl _) (.slice none 0 0) (.slice none 0 0) (.int .i64 0) (.int .i64 0) (.int .i64 0) (.int .i64 0)
      rw [show put6 w2 w.heap.size (.slice none 0 0) (.slice none 0 0) (.int .i64 0) (.int .i64 0) (.int .i64 0) (.int .i64 0) = w8 from hw8.symm] at hm8 hb8
      have HB8 := Lib.hid hb8
      clear hw8 hb8 m0 m1 m2 m3 m4 m5 mf
      obtain ⟨m0, m1, m2, m3, m4, m5, mf⟩ := hm8
      refine bodyPost_ret (v := .tuple #[.agg #[.slice none 0 0, .slice none 0 0, .int .i64 0, .int .i64 0, .int .i64 0, .int .i64 0], .bool false]) (by simp [results, Tryd.results12, go_sem, m0, m1, m2, m3, m4, m5]) rfl ?_
      exact .inr ⟨HNO.out, rfl, HB8.out⟩
  obtain ⟨a5, o5, rfl, ha5, hc5⟩ := int_cells HO5.out (by omega)
  have hl1 : w2.cell? ⟨g, 1, none⟩ = some (.string (toB' (it ls 1))) := HA2.out.cell 1 (by omega)
  have H7 := Lib.hid (show SevenS g a5 o5 _ _ _ _ _ w2 from ⟨hl1, hc5 0 (by omega), hc5 1 (by omega), hc5 2 (by omega), hc5 3 (by omega)⟩)
  have HHD := Lib.hid hh
  rw [hh]
  clear hh hc5 hl1 HO5
  have HG := Lib.hid (And.intro HS2.out.2 ha5)
  clear ha5
  have q1 : (1 : Int) < (n : Int) := by omega
  go_upto_region 7 with fail
  go_cut [0, 6] (fun u0 u6 wx => ∃ b A1 c1, u0 = .string s ∧ u6 = .pointer (some ⟨b, 0, none⟩) ∧ Hid (PsBox w2 wx b A1 c1 (nmsS (it ls 1)) (it (nmsS (it ls 0)) 0) (it (nmsS (it ls 0)) 1) (it (nmsS (it ls 0)) 2) (it (nmsS (it ls 0)) 3)))
  case first =>
    have HKd := Lib.hid (H7.out.next HG.out.1 HG.out.2 (below_drewn w2))
    have HKa := Lib.hid (fun ob => H7.out.next HG.out.1 HG.out.2 (below_adn w2 ob))
    go_region_held3 (fun w' => w'.cell? ⟨g, 1, none⟩ = some (.string (toB' (it ls 1))) ∧ w'.cell? ⟨a5, o5, none⟩ = some (.int .i64 (it (nmsS (it ls 0)) 0)) ∧ w'.cell? ⟨a5, o5 + 1, none⟩ = some (.int .i64 (it (nmsS (it ls 0)) 1)) ∧ w'.cell? ⟨a5, o5 + 2, none⟩ = some (.int .i64 (it (nmsS (it ls 0)) 2)) ∧ w'.cell? ⟨a5, o5 + 3, none⟩ = some (.int .i64 (it (nmsS (it ls 0)) 3)))
      (first | (with_reducible exact LKs.out _ _ _ _ _ _) | (with_reducible exact HKd.out) | (with_reducible exact HKa.out _) | (with_reducible exact LK.out) | (with_reducible exact LKa.out _) | fail)
      (first
        | (go_at_call 40; refine (cdNumbers_any (toB' (it ls 1)) (World.drew w2) HZ1.out).mono ?_; rintro e v3 ⟨⟨A1, c1, rfl, ho⟩, hb⟩; rw [toB'_list] at ho; rw [toB'_list]; have hbb := Below_next (below_drewn w2) hb; have LB := Lib.hid hbb; have LO := Lib.hid (ho.mono (fun i h => Nat.le_trans (below_drewn w2).size h)); have LK := Lib.hid (H7.out.next HG.out.1 HG.out.2 hbb); have LKa := Lib.hid (fun ob => H7.out.next HG.out.1 HG.out.2 (Below_next hbb (below_alloc v3 ob))); clear ho hb hbb)
        | (go_at_call 40; refine (cdNumbers_any (toB' (it ls 1)) (World.drew (World.alloc w2 _)) HZ1.out).mono ?_; rintro e v3 ⟨⟨A1, c1, rfl, ho⟩, hb⟩; rw [toB'_list] at ho; rw [toB'_list]; have hbb := Below_next (below_adn w2 _) hb; have LB := Lib.hid hbb; have LO := Lib.hid ho; have LM := Lib.hid (memB_newd w2 w2.heap.size (Nat.le_refl _) _ _ hb); have LK := Lib.hid (H7.out.next HG.out.1 HG.out.2 hbb); have LKs := Lib.hid (fun u0 u1 u2 u3 u4 u5 => H7.out.put (b := w2.heap.size) HG.out.1 HG.out.2 hbb (Nat.ne_of_lt HG.out.1) (Nat.ne_of_lt HG.out.2) u0 u1 u2 u3 u4 u5); unfold put6 at LKs; obtain ⟨m0, m1, m2, m3, m4, m5, mf⟩ := LM.out.mem; clear ho hb hbb)
        | fail)
    all_goals
      go_wp2_with fail
      go_meet
      first
        | (have h := psBox_early (c := c1) (r0 := it (nmsS (it ls 0)) 0) (r1 := it (nmsS (it ls 0)) 1) (r2 := it (nmsS (it ls 0)) 2) (r3 := it (nmsS (it ls 0)) 3) LB.out LM.out LO.out (by simp); exact ⟨_, _, _, rfl, rfl, Lib.hid h⟩)
        | (have h := psBox_late (c := c1) (r0 := it (nmsS (it ls 0)) 0) (r1 := it (nmsS (it ls 0)) 1) (r2 := it (nmsS (it ls 0)) 2) (r3 := it (nmsS (it ls 0)) 3) 31 LB.out LO.out; exact ⟨_, _, _, rfl, rfl, Lib.hid h⟩)
  case rest =>
  obtain ⟨b6, A1, c1, rfl, rfl, HPB⟩ := hcut
  rename World => w3
  have hb3 := HPB.out.below
  have HB3 := Lib.hid (Below_next HB2.out hb3)
  have HA3 := Lib.hid (HA2.out.next hb3)
  have HM3 := Lib.hid (HM2.out.below hb3 HS2.out.1)
  have HS22 := Lib.hid (show w.heap.size < w2.heap.size by have := HS2.out; omega)
  have HS3 := Lib.hid (show w.heap.size < b6 ∧ b6 < w3.heap.size ∧ g < b6 ∧ g < w3.heap.size by have := HPB.out.ge; have := HPB.out.lt; have := HS2.out; omega)
  clear hb3 HB2 HA2 HM2 HS2 H7 HG q1
  generalize hr0 : it (nmsS (it ls 0)) 0 = r0 at HPB
  generalize hr1 : it (nmsS (it ls 0)) 1 = r1 at HPB
  generalize hr2 : it (nmsS (it ls 0)) 2 = r2 at HPB
  generalize hr3 : it (nmsS (it ls 0)) 3 = r3 at HPB
  have hwr : IntKind.i64.wrap ((n : Int) - 1) = (n : Int) - 1 := IntWalk.i64_in _ (by omega)
  have q2 : (2 : Int) ≤ (n : Int) - 1 := by omega
  have q3 : (n : Int) - 1 ≤ (cap : Int) := by omega
  have q4 : ¬ (cap : Int) - 2 = 0 := by omega
  go_wp2_with fail
  go_loopw [52] (fun i wr => ∃ k vE, k ≤ n - 3 ∧ i = .int .i64 (k : Nat) ∧ Hid (PsL nmsS (fun l => (nmsS l).length = 3) ls w3 b6 A1 c1 (nmsS (it ls 1)) r0 r1 r2 r3 k wr vE)) (fun i _ => (n - 3) - (intOf i).toNat)
  case atStart => exact ⟨0, .slice none 0 0, Nat.zero_le _, rfl, Lib.hid ⟨HPB.out.mem, World.ownsRow_nil w3 _ _ _, Only.refl _ _, fun j hj => absurd hj (Nat.not_lt_zero _)⟩⟩
  case round =>
    obtain ⟨k, vE, hk, rfl, HL⟩ := hrel
    have hbl : Below w.heap.size w3 wr := HL.out.only.below (by have := HS3.out; omega) (fun i hi => by have := HS3.out; rcases hi with rfl | hi <;> omega)
    have HBk := Lib.hid (HB3.out.trans hbl)
    have HSk := Lib.hid (show w3.heap.size ≤ wr.heap.size from HL.out.only.size)
    have HMk := Lib.hid (HM3.out.only HL.out.only (by have := HS3.out; omega) (by have := HS3.out; omega))
    have HGk := Lib.hid (HL.out.only.block g HS3.out.2.2.2 (by have := HS3.out; omega))
    clear hbl
    by_cases hlt : k < n - 3
    · have hlk : wr.cell? ⟨g, 2 + k, none⟩ = some (.string (toB' (it ls (2 + k)))) := (World.cell?_of_block (a := ⟨g, 2 + k, none⟩) HGk.out).trans (HA3.out.cell (2 + k) (by omega))
      have hzk : (toB' (it ls (2 + k))).size ≤ 1048576 := by
        have := HSZ.out _ (it_mem (xs := ls) (i := 2 + k) (by omega))
        show (it ls (2 + k)).toArray.size ≤ _
        rw [List.size_toArray]
        omega
      have HMI := Lib.hid (HML.out k hlt)
      generalize hlg : it ls (2 + k) = lk at *
      go_wp2_with fail
      refine (cdNumbers_any (toB' lk) wr hzk).mono ?_
      rintro e w4 ⟨⟨A9, c9, rfl, ho9⟩, hb4⟩
      rw [toB'_list] at ho9
      rw [toB'_list]
      have HB4 := Lib.hid (Below_next HBk.out hb4)
      have HM4 := Lib.hid (HMk.out.below hb4 (by have := HS3.out; have := HSk.out; omega))
      have HB34 := Lib.hid hb4
      have HO9 := Lib.hid ho9
      clear hb4 ho9 hlk
      by_cases h3 : (nmsS lk).length = 3
      rotate_left
      · have HNO := Lib.hid (show ¬ IsTx s from fun q => h3 (by
          have := each_it.1 (HTS.out.1 q).1.each k (by rw [HN.out (by omega)]; omega)
          rw [HMI.out] at this
          exact this))
        have hh' : ((nmsS lk).length : Int) < 3 ∨ (3 : Int) < ((nmsS lk).length : Int) := by omega
        generalize (nmsS lk).length = h0 at hh'
        rcases hh' with hh' | hh'
        · obtain ⟨m0, m1, m2, m3, m4, m5, mf⟩ := HM4.out
          go_wp2
          refine stop_body ⟨?_⟩
          intro w8 hw8
          have hm8 := HM4.out.all (.slice none 0 0) (.slice none 0 0) (.int .i64 0) (.int .i64 0) (.int .i64 0) (.int .i64 0)
          have hb8 := below_six HB4.out w.heap.size (Nat.le_refl _) (.slice none 0 0) (.slice none 0 0) (.int .i64 0) (.int .i64 0) (.int .i64 0) (.int .i64 0)
          rw [show put6 w4 w.heap.size (.slice none 0 0) (.slice none 0 0) (.int .i64 0) (.int .i64 0) (.int .i64 0) (.int .i64 0) = w8 from hw8.symm] at hm8 hb8
          have HB8 := Lib.hid hb8
          clear hw8 hb8 m0 m1 m2 m3 m4 m5 mf
          obtain ⟨m0, m1, m2, m3, m4, m5, mf⟩ := hm8
          refine bodyPost_ret (v := .tuple #[.agg #[.slice none 0 0, .slice none 0 0, .int .i64 0, .int .i64 0, .int .i64 0, .int .i64 0], .bool false]) (by simp [results, Tryd.results12, go_sem, m0, m1, m2, m3, m4, m5]) rfl ?_
          exact .inr ⟨HNO.out, rfl, HB8.out⟩
        · obtain ⟨m0, m1, m2, m3, m4, m5, mf⟩ := HM4.out
          go_wp2
          refine stop_body ⟨?_⟩
          intro w8 hw8
          have hm8 := HM4.out.all (.slice none 0 0) (.slice none 0 0) (.int .i64 0) (.int .i64 0) (.int .i64 0) (.int .i64 0)
          have hb8 := below_six HB4.out w.heap.size (Nat.le_refl _) (.slice none 0 0) (.slice none 0 0) (.int .i64 0) (.int .i64 0) (.int .i64 0) (.int .i64 0)
          rw [show put6 w4 w.heap.size (.slice none 0 0) (.slice none 0 0) (.int .i64 0) (.int .i64 0) (.int .i64 0) (.int .i64 0) = w8 from hw8.symm] at hm8 hb8
          have HB8 := Lib.hid hb8
          clear hw8 hb8 m0 m1 m2 m3 m4 m5 mf
          obtain ⟨m0, m1, m2, m3, m4, m5, mf⟩ := hm8
          refine bodyPost_ret (v := .tuple #[.agg #[.slice none 0 0, .slice none 0 0, .int .i64 0, .int .i64 0, .int .i64 0, .int .i64 0], .bool false]) (by simp [results, Tryd.results12, go_sem, m0, m1, m2, m3, m4, m5]) rfl ?_
          exact .inr ⟨HNO.out, rfl, HB8.out⟩
      obtain ⟨a9, o9, rfl, hg9, ha9, hc9⟩ := own_int HO9.out (by omega)
      have HS4 := Lib.hid (show w3.heap.size ≤ w4.heap.size ∧ b6 < wr.heap.size by have := HS3.out; have := HSk.out; have := HB34.out.size; omega)
      have HMm := Lib.hid (HL.out.mem.below HB34.out HS4.out.2)
      have HRow := Lib.hid (ownsRow_next HL.out.row HB34.out)
      have H3 := Lib.hid (show ThreeS a9 o9 _ _ _ w4 from ⟨hc9 0 (by omega), hc9 1 (by omega), hc9 2 (by omega)⟩)
      have HG9 := Lib.hid ha9
      have HN9 := Lib.hid (show a9 ≠ b6 by have := HS4.out; omega)
      have HF9 := Lib.hid (show ∀ kk, vE.ownBlock = some kk → kk ≠ a9 from fun kk e => by have := (HL.out.row.lt kk e).2; omega)
      have HE9 := Lib.hid h3
      have hd6 := Nat.lt_of_lt_of_le HS4.out.2 HB34.out.size
      rw [h3]
      clear h3 hc9 ha9 hg9 HO9
      go_upto_region 14 with fail
      obtain ⟨m0, m1, m2, m3, m4, m5, mf⟩ := HMm.out
      have HKd := Lib.hid (H3.out.block ((below_drewn w4).block a9 HG9.out))
      refine wp_region_held_drew (S := (fun w' => w'.cell? ⟨a9, o9, none⟩ = some (.int .i64 (it (nmsS lk) 0)) ∧ w'.cell? ⟨a9, o9 + 1, none⟩ = some (.int .i64 (it (nmsS lk) 1)) ∧ w'.cell? ⟨a9, o9 + 2, none⟩ = some (.int .i64 (it (nmsS lk) 2)))) (by kernel_rfl) ?_ (fun hHeld0 => ?_)
      · ((try dsimp only); exact HKd.out)
      refine wpAnyH_take (i := 0) (oi := _) (v := ?_) rfl (by kernel_rfl) (by kernel_rfl) (by kernel_rfl) (fun _ _ _ h => h) (Or.inl ⟨by rfl, ?_⟩) (by assumption) ?_
      rotate_left
      · (intro w hSw; (try dsimp only at hSw); go_simp; try with_reducible rfl)
      try simp only [Act.put, List.setIfInBounds_toArray, List.set_cons_zero, List.set_cons_succ, List.getElem_toArray, List.getElem_cons_zero]
      refine wpAnyH_take (i := 2) (oi := _) (v := ?_) rfl (by kernel_rfl) (by kernel_rfl) (by kernel_rfl) (fun _ _ _ h => h) (Or.inl ⟨by rfl, ?_⟩) (by assumption) ?_
      rotate_left
      · (intro w hSw; (try dsimp only at hSw); go_simp; try with_reducible rfl)
      try simp only [Act.put, List.setIfInBounds_toArray, List.set_cons_zero, List.set_cons_succ, List.getElem_toArray, List.getElem_cons_zero, List.getElem_cons_succ]
      refine wpAnyH_take (i := 6) (oi := _) (v := ?_) rfl (by kernel_rfl) (by kernel_rfl) (by kernel_rfl) (fun _ _ _ h => h) (Or.inl ⟨by rfl, ?_⟩) (by assumption) ?_
      rotate_left
      · (intro w hSw; (try dsimp only at hSw); go_simp; try with_reducible rfl)
      try simp only [Act.put, List.setIfInBounds_toArray, List.set_cons_zero, List.set_cons_succ, List.getElem_toArray, List.getElem_cons_zero, List.getElem_cons_succ]
      refine wpAnyH_take (i := 7) (oi := _) (v := ?_) rfl (by kernel_rfl) (by kernel_rfl) (by kernel_rfl) (fun _ _ _ h => h) (Or.inl ⟨by rfl, ?_⟩) (by assumption) ?_
      rotate_left
      · (intro w hSw; (try dsimp only at hSw); go_simp; try with_reducible rfl)
      try simp only [Act.put, List.setIfInBounds_toArray, List.set_cons_zero, List.set_cons_succ, List.getElem_toArray, List.getElem_cons_zero, List.getElem_cons_succ]
      refine wpAnyH_take (i := 8) (oi := _) (v := ?_) rfl (by kernel_rfl) (by kernel_rfl) (by kernel_rfl) (fun _ _ _ h => h) (Or.inl ⟨by rfl, ?_⟩) (by assumption) ?_
      rotate_left
      · (intro w hSw; (try dsimp only at hSw); go_simp; try with_reducible rfl)
      try simp only [Act.put, List.setIfInBounds_toArray, List.set_cons_zero, List.set_cons_succ, List.getElem_toArray, List.getElem_cons_zero, List.getElem_cons_succ]
      refine wpAnyH_take (i := 9) (oi := _) (v := ?_) rfl (by kernel_rfl) (by kernel_rfl) (by kernel_rfl) (fun _ _ _ h => h) (Or.inl ⟨by rfl, ?_⟩) (by assumption) ?_
      rotate_left
      · (intro w hSw; (try dsimp only at hSw); go_simp; try with_reducible rfl)
      try simp only [Act.put, List.setIfInBounds_toArray, List.set_cons_zero, List.set_cons_succ, List.getElem_toArray, List.getElem_cons_zero, List.getElem_cons_succ]
      refine wpAnyH_take (i := 10) (oi := _) (v := ?_) rfl (by kernel_rfl) (by kernel_rfl) (by kernel_rfl) (fun _ _ _ h => h) (Or.inl ⟨by rfl, ?_⟩) (by assumption) ?_
      rotate_left
      · (intro w hSw; (try dsimp only at hSw); go_simp; try with_reducible rfl)
      try simp only [Act.put, List.setIfInBounds_toArray, List.set_cons_zero, List.set_cons_succ, List.getElem_toArray, List.getElem_cons_zero, List.getElem_cons_succ]
      refine wpAnyH_take (i := 11) (oi := _) (v := ?_) rfl (by kernel_rfl) (by kernel_rfl) (by kernel_rfl) (fun _ _ _ h => h) (Or.inl ⟨by rfl, ?_⟩) (by assumption) ?_
      rotate_left
      · (intro w hSw; (try dsimp only at hSw); go_simp; try with_reducible rfl)
      try simp only [Act.put, List.setIfInBounds_toArray, List.set_cons_zero, List.set_cons_succ, List.getElem_toArray, List.getElem_cons_zero, List.getElem_cons_succ]
      refine wpAnyH_take (i := 12) (oi := _) (v := ?_) rfl (by kernel_rfl) (by kernel_rfl) (by kernel_rfl) (fun _ _ _ h => h) (Or.inl ⟨by rfl, ?_⟩) (by assumption) ?_
      rotate_left
      · (intro w hSw; (try dsimp only at hSw); go_simp; try with_reducible rfl)
      try simp only [Act.put, List.setIfInBounds_toArray, List.set_cons_zero, List.set_cons_succ, List.getElem_toArray, List.getElem_cons_zero, List.getElem_cons_succ]
      refine wpAnyH_take (i := 13) (oi := _) (v := ?_) rfl (by kernel_rfl) (by kernel_rfl) (by kernel_rfl) (fun _ _ _ h => h) (Or.inl ⟨by rfl, ?_⟩) (by assumption) ?_
      rotate_left
      · (intro w hSw; (try dsimp only at hSw); go_simp; try with_reducible rfl)
      try simp only [Act.put, List.setIfInBounds_toArray, List.set_cons_zero, List.set_cons_succ, List.getElem_toArray, List.getElem_cons_zero, List.getElem_cons_succ]
      refine wpAnyH_take (i := 14) (oi := _) (v := ?_) rfl (by kernel_rfl) (by kernel_rfl) (by kernel_rfl) (fun _ _ _ h => h) (Or.inl ⟨by rfl, ?_⟩) (by assumption) ?_
      rotate_left
      · (intro w hSw; (try dsimp only at hSw); go_simp; try with_reducible rfl)
      try simp only [Act.put, List.setIfInBounds_toArray, List.set_cons_zero, List.set_cons_succ, List.getElem_toArray, List.getElem_cons_zero, List.getElem_cons_succ]
      refine wpAnyH_ready (rs := [1, 3]) (by kernel_rfl) (by simp) ?_
      refine AllReadyH.cons rfl (fun K hK => ?_) ?_
      · go_simp
        refine hK.out _ _ ?_ (fun hHeld1 => ?_)
        · ((try dsimp only); (first | (with_reducible exact HKd.out) | (with_reducible exact LKs.out _) | (with_reducible exact LKb.out) | (with_reducible exact LKa.out _) | (with_reducible exact LK.out) | fail))
        clear hK K
        refine wpAnyH_ready (rs := [3]) (by kernel_rfl) (by simp) ?_
        refine AllReadyH.cons rfl (fun K hK => ?_) ?_
        · go_simp
          go_wp2_with ((go_at_call 39; refine (l1Split_any (toB' lk) 32 (World.drew w4) hzk (by omega) (by omega)).mono ?_; rintro e v5 ⟨vw, rfl, ho, hb⟩; rw [toB'_list] at ho; obtain ⟨gw, cw, rfl, hcw1, hcw2, hgw, hAw⟩ := row_str ho (split_pos 32 lk []); have hbb := Below_next (below_drewn w4) hb; have LB := Lib.hid hbb; have LR := Lib.hid (ownsRow_next HRow.out hbb); have f0 : v5.cell? ⟨gw, 0, none⟩ = some (.string (hdW lk)) := (by rw [hdW_it]; exact hAw.cell 0 (split_pos 32 lk [])); have LQ := Lib.hid (fun ob => Nat.le_trans (Nat.le_trans HS4.out.1 LB.out.size) (below_alloc v5 ob).size); have LA9 := Lib.hid (fun ob => Nat.lt_of_lt_of_le (Nat.lt_of_lt_of_le HG9.out LB.out.size) (below_alloc v5 ob).size); have LB9 := Lib.hid (fun ob => ((below_alloc v5 ob).block a9 (Nat.lt_of_lt_of_le HG9.out LB.out.size)).trans (LB.out.block a9 HG9.out)); have LK := Lib.hid (H3.out.block (LB.out.block a9 HG9.out)); have LKa := Lib.hid (fun ob => H3.out.block (LB9.out ob)); have fl := hAw.lt; have fp := words_pos lk; have fn : 0 < (splitL 32 lk).length := split_pos 32 lk []; obtain ⟨n0, n1, n2, n3, n4, n5, nf⟩ := HMm.out.below hbb hd6; have d6 := Nat.lt_of_lt_of_le hd6 hbb.size; clear ho hb hAw hbb))
          refine hK.out _ _ ?_ (fun hHeld2 => ?_)
          · ((try dsimp only); (first | (with_reducible exact HKd.out) | (with_reducible exact LKs.out _) | (with_reducible exact LKb.out) | (with_reducible exact LKa.out _) | (with_reducible exact LK.out) | fail))
          clear hK K
          refine wpAnyH_take (i := 4) (oi := _) (v := ?_) rfl (by kernel_rfl) (by kernel_rfl) (by kernel_rfl) (fun _ _ _ h => h) (Or.inl ⟨by rfl, ?_⟩) (by assumption) ?_
          rotate_left
          · (intro w hSw; (try dsimp only at hSw); go_simp; try with_reducible rfl)
          try simp only [Act.put, List.setIfInBounds_toArray, List.set_cons_zero, List.set_cons_succ, List.getElem_toArray, List.getElem_cons_zero, List.getElem_cons_succ]
          refine wpAnyH_ready (rs := [5]) (by kernel_rfl) (by simp) ?_
          refine AllReadyH.cons rfl (fun K hK => ?_) ?_
          · go_simp
            refine hK.out _ _ ?_ (fun hHeld3 => ?_)
            · ((try dsimp only); (first | (with_reducible exact HKd.out) | (with_reducible exact LKs.out _) | (with_reducible exact LKb.out) | (with_reducible exact LKa.out _) | (with_reducible exact LK.out) | fail))
            clear hK K
            refine wpAnyH_take (i := 15) (oi := _) (v := ?_) rfl (by kernel_rfl) (by kernel_rfl) (by kernel_rfl) (fun _ _ _ h => h) (Or.inl ⟨by rfl, ?_⟩) (by assumption) ?_
            rotate_left
            · (intro w hSw; (try dsimp only at hSw); go_simp; try with_reducible rfl)
            try simp only [Act.put, List.setIfInBounds_toArray, List.set_cons_zero, List.set_cons_succ, List.getElem_toArray, List.getElem_cons_zero, List.getElem_cons_succ]
            refine wpAnyH_ready (rs := [16]) (by kernel_rfl) (by simp) ?_
            refine AllReadyH.cons rfl (fun K hK => ?_) ?_
            · go_simp
              refine hK.out _ _ ?_ (fun hHeld4 => ?_)
              · ((try dsimp only); (first | (with_reducible exact HKd.out) | (with_reducible exact LKs.out _) | (with_reducible exact LKb.out) | (with_reducible exact LKa.out _) | (with_reducible exact LK.out) | fail))
              clear hK K
              refine wpAnyH_ready (rs := [17]) (by kernel_rfl) (by simp) ?_
              refine AllReadyH.cons rfl (fun K hK => ?_) ?_
              · (refine step_append_srcN _ (by rfl) (.tmp 63) (.tmp 78) 29 (by rfl) w3.heap.size 64 i0 (.agg #[.string ⟨#[]⟩, .int .i64 0, .int .i64 0, .int .i64 0]) 4 40 (by decide) Tryd.underlying29 HZ.out.1 HZ.out.2.1 HZ.out.2.2.1 HZ.out.2.2.2 rfl vE k _ (by rfl) (ownsRow_next LR.out (below_alloc v5 _)) (some ⟨v5.heap.size, 0, none⟩) 1 1 ([elN nmsS lk].flatMap Flat.cells) (by rfl) (flat_len [elN nmsS lk]) (src_new v5 (elN nmsS lk) _) (el_one _) (by unfold maxLen; omega) (by omega) (LQ.out _) ?_; intro vb wb hownb hgrowb hatb; have hbc := Below.grown ((LB.out.mono HS4.out.1).alloc (Nat.le_trans HS4.out.1 LB.out.size) _) hgrowb (LQ.out _) (fun kk e => (HRow.out.lt kk e).1); have hbk := (hgrowb.block a9 (LA9.out _) (fun e => HF9.out a9 e.symm rfl)).trans (LB9.out _); have LKb := Lib.hid (H3.out.block hbk); have LKs := Lib.hid (fun u => H3.out.block ((((Only.refl (fun i => i = b6) wb).setCell (p := ⟨b6, 0, none⟩) rfl u).block a9 (Nat.lt_of_lt_of_le (LA9.out _) hgrowb.size) HN9.out).trans hbk)); have LC := Lib.hid hbc; have LO := Lib.hid hownb; obtain ⟨gE, cE, rfl, hgE1, hgE2⟩ := row_pos hownb (Nat.succ_pos _); clear hgE1 hgE2; obtain ⟨p0, p1, p2, p3, p4, p5, pf⟩ := HMm.out.below hbc HS3.out.2.1; clear hownb hgrowb hatb hbc hbk)
                refine hK.out _ _ ?_ (fun hHeld5 => ?_)
                · ((try dsimp only); (first | (with_reducible exact HKd.out) | (with_reducible exact LKs.out _) | (with_reducible exact LKb.out) | (with_reducible exact LKa.out _) | (with_reducible exact LK.out) | fail))
                clear hK K
                refine wpAnyH_take (i := 18) (oi := _) (v := ?_) rfl (by kernel_rfl) (by kernel_rfl) (by kernel_rfl) (fun _ _ _ h => h) (Or.inl ⟨by rfl, ?_⟩) (by assumption) ?_
                rotate_left
                · (intro w hSw; (try dsimp only at hSw); go_simp; try with_reducible rfl)
                try simp only [Act.put, List.setIfInBounds_toArray, List.set_cons_zero, List.set_cons_succ, List.getElem_toArray, List.getElem_cons_zero, List.getElem_cons_succ]
                refine wpAnyH_ready (rs := [19]) (by kernel_rfl) (by simp) ?_
                refine AllReadyH.cons rfl (fun K hK => ?_) ?_
                · go_simp
                  refine hK.out _ _ ?_ (fun hHeld6 => ?_)
                  · ((try dsimp only); (first | (with_reducible exact HKd.out) | (with_reducible exact LKs.out _) | (with_reducible exact LKb.out) | (with_reducible exact LKa.out _) | (with_reducible exact LK.out) | fail))
                  clear hK K
                  refine wpAnyH_done (by kernel_rfl) ?_ _
                  go_wp2
                  go_roundw
                  case rel => exact ⟨k + 1, _, by omega, by go_num, Lib.hid (psL_next HL.out HB34.out LC.out HS3.out.2.1 LO.out (by rw [HN.out (by omega)]; omega) HMI.out HE9.out)⟩
                  case measure => simp [intOf]; omega
                exact AllReadyH.nil
              exact AllReadyH.nil
            exact AllReadyH.nil
          exact AllReadyH.nil
        exact AllReadyH.nil
      refine AllReadyH.cons rfl (fun K hK => ?_) ?_
      · go_simp
        go_wp2_with ((go_at_call 39; refine (l1Split_any (toB' lk) 32 (World.drew w4) hzk (by omega) (by omega)).mono ?_; rintro e v5 ⟨vw, rfl, ho, hb⟩; rw [toB'_list] at ho; obtain ⟨gw, cw, rfl, hcw1, hcw2, hgw, hAw⟩ := row_str ho (split_pos 32 lk []); have hbb := Below_next (below_drewn w4) hb; have LB := Lib.hid hbb; have LR := Lib.hid (ownsRow_next HRow.out hbb); have f0 : v5.cell? ⟨gw, 0, none⟩ = some (.string (hdW lk)) := (by rw [hdW_it]; exact hAw.cell 0 (split_pos 32 lk [])); have LQ := Lib.hid (fun ob => Nat.le_trans (Nat.le_trans HS4.out.1 LB.out.size) (below_alloc v5 ob).size); have LA9 := Lib.hid (fun ob => Nat.lt_of_lt_of_le (Nat.lt_of_lt_of_le HG9.out LB.out.size) (below_alloc v5 ob).size); have LB9 := Lib.hid (fun ob => ((below_alloc v5 ob).block a9 (Nat.lt_of_lt_of_le HG9.out LB.out.size)).trans (LB.out.block a9 HG9.out)); have LK := Lib.hid (H3.out.block (LB.out.block a9 HG9.out)); have LKa := Lib.hid (fun ob => H3.out.block (LB9.out ob)); have fl := hAw.lt; have fp := words_pos lk; have fn : 0 < (splitL 32 lk).length := split_pos 32 lk []; obtain ⟨n0, n1, n2, n3, n4, n5, nf⟩ := HMm.out.below hbb hd6; have d6 := Nat.lt_of_lt_of_le hd6 hbb.size; clear ho hb hAw hbb))
        refine hK.out _ _ ?_ (fun hHeld1 => ?_)
        · ((try dsimp only); (first | (with_reducible exact HKd.out) | (with_reducible exact LKs.out _) | (with_reducible exact LKb.out) | (with_reducible exact LKa.out _) | (with_reducible exact LK.out) | fail))
        clear hK K
        refine wpAnyH_take (i := 4) (oi := _) (v := ?_) rfl (by kernel_rfl) (by kernel_rfl) (by kernel_rfl) (fun _ _ _ h => h) (Or.inl ⟨by rfl, ?_⟩) (by assumption) ?_
        rotate_left
        · (intro w hSw; (try dsimp only at hSw); go_simp; try with_reducible rfl)
        try simp only [Act.put, List.setIfInBounds_toArray, List.set_cons_zero, List.set_cons_succ, List.getElem_toArray, List.getElem_cons_zero, List.getElem_cons_succ]
        refine wpAnyH_ready (rs := [1, 5]) (by kernel_rfl) (by simp) ?_
        refine AllReadyH.cons rfl (fun K hK => ?_) ?_
        · go_simp
          refine hK.out _ _ ?_ (fun hHeld2 => ?_)
          · ((try dsimp only); (first | (with_reducible exact HKd.out) | (with_reducible exact LKs.out _) | (with_reducible exact LKb.out) | (with_reducible exact LKa.out _) | (with_reducible exact LK.out) | fail))
          clear hK K
          refine wpAnyH_ready (rs := [5]) (by kernel_rfl) (by simp) ?_
          refine AllReadyH.cons rfl (fun K hK => ?_) ?_
          · go_simp
            refine hK.out _ _ ?_ (fun hHeld3 => ?_)
            · ((try dsimp only); (first | (with_reducible exact HKd.out) | (with_reducible exact LKs.out _) | (with_reducible exact LKb.out) | (with_reducible exact LKa.out _) | (with_reducible exact LK.out) | fail))
            clear hK K
            refine wpAnyH_take (i := 15) (oi := _) (v := ?_) rfl (by kernel_rfl) (by kernel_rfl) (by kernel_rfl) (fun _ _ _ h => h) (Or.inl ⟨by rfl, ?_⟩) (by assumption) ?_
            rotate_left
            · (intro w hSw; (try dsimp only at hSw); go_simp; try with_reducible rfl)
            try simp only [Act.put, List.setIfInBounds_toArray, List.set_cons_zero, List.set_cons_succ, List.getElem_toArray, List.getElem_cons_zero, List.getElem_cons_succ]
            refine wpAnyH_ready (rs := [16]) (by kernel_rfl) (by simp) ?_
            refine AllReadyH.cons rfl (fun K hK => ?_) ?_
            · go_simp
              refine hK.out _ _ ?_ (fun hHeld4 => ?_)
              · ((try dsimp only); (first | (with_reducible exact HKd.out) | (with_reducible exact LKs.out _) | (with_reducible exact LKb.out) | (with_reducible exact LKa.out _) | (with_reducible exact LK.out) | fail))
              clear hK K
              refine wpAnyH_ready (rs := [17]) (by kernel_rfl) (by simp) ?_
              refine AllReadyH.cons rfl (fun K hK => ?_) ?_
              · (refine step_append_srcN _ (by rfl) (.tmp 63) (.tmp 78) 29 (by rfl) w3.heap.size 64 i0 (.agg #[.string ⟨#[]⟩, .int .i64 0, .int .i64 0, .int .i64 0]) 4 40 (by decide) Tryd.underlying29 HZ.out.1 HZ.out.2.1 HZ.out.2.2.1 HZ.out.2.2.2 rfl vE k _ (by rfl) (ownsRow_next LR.out (below_alloc v5 _)) (some ⟨v5.heap.size, 0, none⟩) 1 1 ([elN nmsS lk].flatMap Flat.cells) (by rfl) (flat_len [elN nmsS lk]) (src_new v5 (elN nmsS lk) _) (el_one _) (by unfold maxLen; omega) (by omega) (LQ.out _) ?_; intro vb wb hownb hgrowb hatb; have hbc := Below.grown ((LB.out.mono HS4.out.1).alloc (Nat.le_trans HS4.out.1 LB.out.size) _) hgrowb (LQ.out _) (fun kk e => (HRow.out.lt kk e).1); have hbk := (hgrowb.block a9 (LA9.out _) (fun e => HF9.out a9 e.symm rfl)).trans (LB9.out _); have LKb := Lib.hid (H3.out.block hbk); have LKs := Lib.hid (fun u => H3.out.block ((((Only.refl (fun i => i = b6) wb).setCell (p := ⟨b6, 0, none⟩) rfl u).block a9 (Nat.lt_of_lt_of_le (LA9.out _) hgrowb.size) HN9.out).trans hbk)); have LC := Lib.hid hbc; have LO := Lib.hid hownb; obtain ⟨gE, cE, rfl, hgE1, hgE2⟩ := row_pos hownb (Nat.succ_pos _); clear hgE1 hgE2; obtain ⟨p0, p1, p2, p3, p4, p5, pf⟩ := HMm.out.below hbc HS3.out.2.1; clear hownb hgrowb hatb hbc hbk)
                refine hK.out _ _ ?_ (fun hHeld5 => ?_)
                · ((try dsimp only); (first | (with_reducible exact HKd.out) | (with_reducible exact LKs.out _) | (with_reducible exact LKb.out) | (with_reducible exact LKa.out _) | (with_reducible exact LK.out) | fail))
                clear hK K
                refine wpAnyH_take (i := 18) (oi := _) (v := ?_) rfl (by kernel_rfl) (by kernel_rfl) (by kernel_rfl) (fun _ _ _ h => h) (Or.inl ⟨by rfl, ?_⟩) (by assumption) ?_
                rotate_left
                · (intro w hSw; (try dsimp only at hSw); go_simp; try with_reducible rfl)
                try simp only [Act.put, List.setIfInBounds_toArray, List.set_cons_zero, List.set_cons_succ, List.getElem_toArray, List.getElem_cons_zero, List.getElem_cons_succ]
                refine wpAnyH_ready (rs := [19]) (by kernel_rfl) (by simp) ?_
                refine AllReadyH.cons rfl (fun K hK => ?_) ?_
                · go_simp
                  refine hK.out _ _ ?_ (fun hHeld6 => ?_)
                  · ((try dsimp only); (first | (with_reducible exact HKd.out) | (with_reducible exact LKs.out _) | (with_reducible exact LKb.out) | (with_reducible exact LKa.out _) | (with_reducible exact LK.out) | fail))
                  clear hK K
                  refine wpAnyH_done (by kernel_rfl) ?_ _
                  go_wp2
                  go_roundw
                  case rel => exact ⟨k + 1, _, by omega, by go_num, Lib.hid (psL_next HL.out HB34.out LC.out HS3.out.2.1 LO.out (by rw [HN.out (by omega)]; omega) HMI.out HE9.out)⟩
                  case measure => simp [intOf]; omega
                exact AllReadyH.nil
              exact AllReadyH.nil
            exact AllReadyH.nil
          exact AllReadyH.nil
        refine AllReadyH.cons rfl (fun K hK => ?_) ?_
        · go_simp
          refine hK.out _ _ ?_ (fun hHeld2 => ?_)
          · ((try dsimp only); (first | (with_reducible exact HKd.out) | (with_reducible exact LKs.out _) | (with_reducible exact LKb.out) | (with_reducible exact LKa.out _) | (with_reducible exact LK.out) | fail))
          clear hK K
          refine wpAnyH_take (i := 15) (oi := _) (v := ?_) rfl (by kernel_rfl) (by kernel_rfl) (by kernel_rfl) (fun _ _ _ h => h) (Or.inl ⟨by rfl, ?_⟩) (by assumption) ?_
          rotate_left
          · (intro w hSw; (try dsimp only at hSw); go_simp; try with_reducible rfl)
          try simp only [Act.put, List.setIfInBounds_toArray, List.set_cons_zero, List.set_cons_succ, List.getElem_toArray, List.getElem_cons_zero, List.getElem_cons_succ]
          refine wpAnyH_ready (rs := [1, 16]) (by kernel_rfl) (by simp) ?_
          refine AllReadyH.cons rfl (fun K hK => ?_) ?_
          · go_simp
            refine hK.out _ _ ?_ (fun hHeld3 => ?_)
            · ((try dsimp only); (first | (with_reducible exact HKd.out) | (with_reducible exact LKs.out _) | (with_reducible exact LKb.out) | (with_reducible exact LKa.out _) | (with_reducible exact LK.out) | fail))
            clear hK K
            refine wpAnyH_ready (rs := [16]) (by kernel_rfl) (by simp) ?_
            refine AllReadyH.cons rfl (fun K hK => ?_) ?_
            · go_simp
              refine hK.out _ _ ?_ (fun hHeld4 => ?_)
              · ((try dsimp only); (first | (with_reducible exact HKd.out) | (with_reducible exact LKs.out _) | (with_reducible exact LKb.out) | (with_reducible exact LKa.out _) | (with_reducible exact LK.out) | fail))
              clear hK K
              refine wpAnyH_ready (rs := [17]) (by kernel_rfl) (by simp) ?_
              refine AllReadyH.cons rfl (fun K hK => ?_) ?_
              · (refine step_append_srcN _ (by rfl) (.tmp 63) (.tmp 78) 29 (by rfl) w3.heap.size 64 i0 (.agg #[.string ⟨#[]⟩, .int .i64 0, .int .i64 0, .int .i64 0]) 4 40 (by decide) Tryd.underlying29 HZ.out.1 HZ.out.2.1 HZ.out.2.2.1 HZ.out.2.2.2 rfl vE k _ (by rfl) (ownsRow_next LR.out (below_alloc v5 _)) (some ⟨v5.heap.size, 0, none⟩) 1 1 ([elN nmsS lk].flatMap Flat.cells) (by rfl) (flat_len [elN nmsS lk]) (src_new v5 (elN nmsS lk) _) (el_one _) (by unfold maxLen; omega) (by omega) (LQ.out _) ?_; intro vb wb hownb hgrowb hatb; have hbc := Below.grown ((LB.out.mono HS4.out.1).alloc (Nat.le_trans HS4.out.1 LB.out.size) _) hgrowb (LQ.out _) (fun kk e => (HRow.out.lt kk e).1); have hbk := (hgrowb.block a9 (LA9.out _) (fun e => HF9.out a9 e.symm rfl)).trans (LB9.out _); have LKb := Lib.hid (H3.out.block hbk); have LKs := Lib.hid (fun u => H3.out.block ((((Only.refl (fun i => i = b6) wb).setCell (p := ⟨b6, 0, none⟩) rfl u).block a9 (Nat.lt_of_lt_of_le (LA9.out _) hgrowb.size) HN9.out).trans hbk)); have LC := Lib.hid hbc; have LO := Lib.hid hownb; obtain ⟨gE, cE, rfl, hgE1, hgE2⟩ := row_pos hownb (Nat.succ_pos _); clear hgE1 hgE2; obtain ⟨p0, p1, p2, p3, p4, p5, pf⟩ := HMm.out.below hbc HS3.out.2.1; clear hownb hgrowb hatb hbc hbk)
                refine hK.out _ _ ?_ (fun hHeld5 => ?_)
                · ((try dsimp only); (first | (with_reducible exact HKd.out) | (with_reducible exact LKs.out _) | (with_reducible exact LKb.out) | (with_reducible exact LKa.out _) | (with_reducible exact LK.out) | fail))
                clear hK K
                refine wpAnyH_take (i := 18) (oi := _) (v := ?_) rfl (by kernel_rfl) (by kernel_rfl) (by kernel_rfl) (fun _ _ _ h => h) (Or.inl ⟨by rfl, ?_⟩) (by assumption) ?_
                rotate_left
                · (intro w hSw; (try dsimp only at hSw); go_simp; try with_reducible rfl)
                try simp only [Act.put, List.setIfInBounds_toArray, List.set_cons_zero, List.set_cons_succ, List.getElem_toArray, List.getElem_cons_zero, List.getElem_cons_succ]
                refine wpAnyH_ready (rs := [19]) (by kernel_rfl) (by simp) ?_
                refine AllReadyH.cons rfl (fun K hK => ?_) ?_
                · go_simp
                  refine hK.out _ _ ?_ (fun hHeld6 => ?_)
                  · ((try dsimp only); (first | (with_reducible exact HKd.out) | (with_reducible exact LKs.out _) | (with_reducible exact LKb.out) | (with_reducible exact LKa.out _) | (with_reducible exact LK.out) | fail))
                  clear hK K
                  refine wpAnyH_done (by kernel_rfl) ?_ _
                  go_wp2
                  go_roundw
                  case rel => exact ⟨k + 1, _, by omega, by go_num, Lib.hid (psL_next HL.out HB34.out LC.out HS3.out.2.1 LO.out (by rw [HN.out (by omega)]; omega) HMI.out HE9.out)⟩
                  case measure => simp [intOf]; omega
                exact AllReadyH.nil
              exact AllReadyH.nil
            exact AllReadyH.nil
          refine AllReadyH.cons rfl (fun K hK => ?_) ?_
          · go_simp
            refine hK.out _ _ ?_ (fun hHeld3 => ?_)
            · ((try dsimp only); (first | (with_reducible exact HKd.out) | (with_reducible exact LKs.out _) | (with_reducible exact LKb.out) | (with_reducible exact LKa.out _) | (with_reducible exact LK.out) | fail))
            clear hK K
            refine wpAnyH_ready (rs := [1]) (by kernel_rfl) (by simp) ?_
            refine AllReadyH.cons rfl (fun K hK => ?_) ?_
            · go_simp
              refine hK.out _ _ ?_ (fun hHeld4 => ?_)
              · ((try dsimp only); (first | (with_reducible exact HKd.out) | (with_reducible exact LKs.out _) | (with_reducible exact LKb.out) | (with_reducible exact LKa.out _) | (with_reducible exact LK.out) | fail))
              clear hK K
              refine wpAnyH_ready (rs := [17]) (by kernel_rfl) (by simp) ?_
              refine AllReadyH.cons rfl (fun K hK => ?_) ?_
              · (refine step_append_srcN _ (by rfl) (.tmp 63) (.tmp 78) 29 (by rfl) w3.heap.size 64 i0 (.agg #[.string ⟨#[]⟩, .int .i64 0, .int .i64 0, .int .i64 0]) 4 40 (by decide) Tryd.underlying29 HZ.out.1 HZ.out.2.1 HZ.out.2.2.1 HZ.out.2.2.2 rfl vE k _ (by rfl) (ownsRow_next LR.out (below_alloc v5 _)) (some ⟨v5.heap.size, 0, none⟩) 1 1 ([elN nmsS lk].flatMap Flat.cells) (by rfl) (flat_len [elN nmsS lk]) (src_new v5 (elN nmsS lk) _) (el_one _) (by unfold maxLen; omega) (by omega) (LQ.out _) ?_; intro vb wb hownb hgrowb hatb; have hbc := Below.grown ((LB.out.mono HS4.out.1).alloc (Nat.le_trans HS4.out.1 LB.out.size) _) hgrowb (LQ.out _) (fun kk e => (HRow.out.lt kk e).1); have hbk := (hgrowb.block a9 (LA9.out _) (fun e => HF9.out a9 e.symm rfl)).trans (LB9.out _); have LKb := Lib.hid (H3.out.block hbk); have LKs := Lib.hid (fun u => H3.out.block ((((Only.refl (fun i => i = b6) wb).setCell (p := ⟨b6, 0, none⟩) rfl u).block a9 (Nat.lt_of_lt_of_le (LA9.out _) hgrowb.size) HN9.out).trans hbk)); have LC := Lib.hid hbc; have LO := Lib.hid hownb; obtain ⟨gE, cE, rfl, hgE1, hgE2⟩ := row_pos hownb (Nat.succ_pos _); clear hgE1 hgE2; obtain ⟨p0, p1, p2, p3, p4, p5, pf⟩ := HMm.out.below hbc HS3.out.2.1; clear hownb hgrowb hatb hbc hbk)
                refine hK.out _ _ ?_ (fun hHeld5 => ?_)
                · ((try dsimp only); (first | (with_reducible exact HKd.out) | (with_reducible exact LKs.out _) | (with_reducible exact LKb.out) | (with_reducible exact LKa.out _) | (with_reducible exact LK.out) | fail))
                clear hK K
                refine wpAnyH_take (i := 18) (oi := _) (v := ?_) rfl (by kernel_rfl) (by kernel_rfl) (by kernel_rfl) (fun _ _ _ h => h) (Or.inl ⟨by rfl, ?_⟩) (by assumption) ?_
                rotate_left
                · (intro w hSw; (try dsimp only at hSw); go_simp; try with_reducible rfl)
                try simp only [Act.put, List.setIfInBounds_toArray, List.set_cons_zero, List.set_cons_succ, List.getElem_toArray, List.getElem_cons_zero, List.getElem_cons_succ]
                refine wpAnyH_ready (rs := [19]) (by kernel_rfl) (by simp) ?_
                refine AllReadyH.cons rfl (fun K hK => ?_) ?_
                · go_simp
                  refine hK.out _ _ ?_ (fun hHeld6 => ?_)
                  · ((try dsimp only); (first | (with_reducible exact HKd.out) | (with_reducible exact LKs.out _) | (with_reducible exact LKb.out) | (with_reducible exact LKa.out _) | (with_reducible exact LK.out) | fail))
                  clear hK K
                  refine wpAnyH_done (by kernel_rfl) ?_ _
                  go_wp2
                  go_roundw
                  case rel => exact ⟨k + 1, _, by omega, by go_num, Lib.hid (psL_next HL.out HB34.out LC.out HS3.out.2.1 LO.out (by rw [HN.out (by omega)]; omega) HMI.out HE9.out)⟩
                  case measure => simp [intOf]; omega
                exact AllReadyH.nil
              exact AllReadyH.nil
            exact AllReadyH.nil
          exact AllReadyH.nil
        exact AllReadyH.nil
      exact AllReadyH.nil
    · obtain rfl : k = n - 3 := by omega
      obtain ⟨gE, cE, hvE, hgE1, hgE2⟩ := row_pos HL.out.row (by omega)
      subst hvE
      have hmn := HN.out (by omega)
      have hlg : (nmsS (it ls 1)).length = (parN nmsS ls).lims.length := rfl
      obtain ⟨x, hx⟩ : ∃ x, x = parN nmsS ls := ⟨_, rfl⟩
      have hxl : x.els.length = n - 3 := by rw [hx, ← hmn]; exact List.length_map ..
      have HMx : Hid (CdMem wr b6 (.slice (some ⟨gE, 0, none⟩) x.els.length cE) (.slice A1 x.lims.length c1) (.int .i64 x.rep) (.int .i64 x.bon) (.int .i64 x.kee) (.int .i64 x.fal)) := Lib.hid (by
        rw [hxl, hx]
        show CdMem wr b6 (.slice (some ⟨gE, 0, none⟩) (n - 3) cE) (.slice A1 (nmsS (it ls 1)).length c1) (.int .i64 (it (nmsS (it ls 0)) 0)) (.int .i64 (it (nmsS (it ls 0)) 1)) (.int .i64 (it (nmsS (it ls 0)) 2)) (.int .i64 (it (nmsS (it ls 0)) 3))
        rw [hr0, hr1, hr2, hr3]
        exact HL.out.mem)
      have HE : Hid (OwnAt wr gE 0 x.els) := Lib.hid (own_of_row (α := El) (cap := cE) (e := 64) (base := w3.heap.size) x.els (by
        have h := HL.out.row
        rw [hxl, hx]
        show wr.ownsRow w3.heap.size 64 4 (.slice (some ⟨gE, 0, none⟩) (n - 3) cE) (n - 3) (((midL ls).map (elN nmsS)).flatMap Flat.cells)
        rw [← elsTo_all nmsS ls, hmn]
        exact h))
      have HLm : Hid (Owned (fun i => (w2.heap.size ≤ i ∧ i ≠ b6) ∧ i < w3.heap.size) wr A1 x.lims) := Lib.hid (by
        rw [hx]
        exact own_keepB HPB.out.own HL.out.only (fun i h => h.2))
      have HAt : Hid (CdAt wr (some ⟨gE, 0, none⟩) A1 x) := Lib.hid ⟨fun _ => ⟨gE, 0, rfl, hgE2, HE.out.cell⟩, HLm.out.lst⟩
      have HFit : Hid (CdFits x) := Lib.hid (by
        rw [hx]
        exact parN_fits nmsS_few (by omega) (by omega) (fun l hl => by have := HSZ.out l hl; omega))
      have HSE := Lib.hid (show w3.heap.size ≤ gE ∧ gE < wr.heap.size ∧ b6 < wr.heap.size ∧ w.heap.size < wr.heap.size by have := HSk.out; have := HS3.out; omega)
      have HT1 := Lib.hid (show CdOk x → txt x = s → IsTx s from fun h1 h2 => ⟨x, h1, h2⟩)
      have HT2 := Lib.hid (show IsTx s → CdOk x ∧ txt x = s ∧ txC s = x from fun h => by
        have h1 := HTS.out.1 h
        have h2 := HTC.out h
        rw [← hx] at h1 h2
        exact ⟨h1.2.1, h1.2.2, h2⟩)
      clear hx hxl hmn hlg hgE1 hgE2 HTS HTC
      obtain ⟨n0, n1, n2, n3, n4, n5, nf⟩ := HMx.out
      go_wp2_with fail
      refine (cdGood_any (some ⟨gE, 0, none⟩) A1 cE c1 x wr HAt.out HFit.out).mono ?_
      rintro e w5 ⟨he, hb5⟩
      have HB5 := Lib.hid (Below_next HBk.out hb5)
      have HM5 := Lib.hid (HMk.out.below hb5 HSE.out.2.2.2)
      have HMx5 := Lib.hid (HMx.out.below hb5 HSE.out.2.2.1)
      have HAt5 := Lib.hid (HAt.out.below hb5)
      have HE5 := Lib.hid (HE.out.block (hb5.block gE HSE.out.2.1))
      have HL5 := Lib.hid (HLm.out.keepB hb5)
      have HSE5 := Lib.hid (show w3.heap.size ≤ gE ∧ gE < w5.heap.size ∧ b6 < w5.heap.size ∧ w.heap.size < w5.heap.size by have := HSE.out; have := hb5.size; omega)
      clear hb5 n0 n1 n2 n3 n4 n5 nf
      by_cases hok : CdOk x
      rotate_left
      · rw [pB_no hok] at he
        subst he
        have HNO := Lib.hid (show ¬ IsTx s from fun q => hok (HT2.out q).1)
        obtain ⟨m0, m1, m2, m3, m4, m5, mf⟩ := HM5.out
        go_wp2
        refine stop_body ⟨?_⟩
        intro w8 hw8
        have hm8 := HM5.out.all (.slice none 0 0) (.slice none 0 0) (.int .i64 0) (.int .i64 0) (.int .i64 0) (.int .i64 0)
        have hb8 := below_six HB5.out w.heap.size (Nat.le_refl _) (.slice none 0 0) (.slice none 0 0) (.int .i64 0) (.int .i64 0) (.int .i64 0) (.int .i64 0)
        rw [show put6 w5 w.heap.size (.slice none 0 0) (.slice none 0 0) (.int .i64 0) (.int .i64 0) (.int .i64 0) (.int .i64 0) = w8 from hw8.symm] at hm8 hb8
        have HB8 := Lib.hid hb8
        clear hw8 hb8 m0 m1 m2 m3 m4 m5 mf
        obtain ⟨m0, m1, m2, m3, m4, m5, mf⟩ := hm8
        refine bodyPost_ret (v := .tuple #[.agg #[.slice none 0 0, .slice none 0 0, .int .i64 0, .int .i64 0, .int .i64 0, .int .i64 0], .bool false]) (by simp [results, Tryd.results12, go_sem, m0, m1, m2, m3, m4, m5]) rfl ?_
        exact .inr ⟨HNO.out, rfl, HB8.out⟩
      rw [pB_yes hok] at he
      subst he
      have HOK := Lib.hid hok
      clear hok
      obtain ⟨n0, n1, n2, n3, n4, n5, nf⟩ := HMx5.out
      go_wp2_with fail
      refine (cdText_any (some ⟨gE, 0, none⟩) A1 cE c1 x w5 HAt5.out HOK.out).mono ?_
      rintro e w6 ⟨rfl, hb6⟩
      have HB6 := Lib.hid (Below_next HB5.out hb6)
      have HM6 := Lib.hid (HM5.out.below hb6 HSE5.out.2.2.2)
      have HMx6 := Lib.hid (HMx5.out.below hb6 HSE5.out.2.2.1)
      have HE6 := Lib.hid (HE5.out.block (hb6.block gE HSE5.out.2.1))
      have HL6 := Lib.hid (HL5.out.keepB hb6)
      have HSE6 := Lib.hid (show w3.heap.size ≤ gE ∧ gE < w6.heap.size ∧ b6 < w6.heap.size ∧ w.heap.size < w6.heap.size by have := HSE5.out; have := hb6.size; omega)
      clear hb6 n0 n1 n2 n3 n4 n5 nf
      by_cases hte : txt x = s
      rotate_left
      · have HNO := Lib.hid (show ¬ IsTx s from fun q => hte (HT2.out q).2.1)
        have hne := text_ne' hte
        obtain ⟨m0, m1, m2, m3, m4, m5, mf⟩ := HM6.out
        go_wp2
        refine stop_body ⟨?_⟩
        intro w8 hw8
        have hm8 := HM6.out.all (.slice none 0 0) (.slice none 0 0) (.int .i64 0) (.int .i64 0) (.int .i64 0) (.int .i64 0)
        have hb8 := below_six HB6.out w.heap.size (Nat.le_refl _) (.slice none 0 0) (.slice none 0 0) (.int .i64 0) (.int .i64 0) (.int .i64 0) (.int .i64 0)
        rw [show put6 w6 w.heap.size (.slice none 0 0) (.slice none 0 0) (.int .i64 0) (.int .i64 0) (.int .i64 0) (.int .i64 0) = w8 from hw8.symm] at hm8 hb8
        have HB8 := Lib.hid hb8
        clear hw8 hb8 m0 m1 m2 m3 m4 m5 mf
        obtain ⟨m0, m1, m2, m3, m4, m5, mf⟩ := hm8
        refine bodyPost_ret (v := .tuple #[.agg #[.slice none 0 0, .slice none 0 0, .int .i64 0, .int .i64 0, .int .i64 0, .int .i64 0], .bool false]) (by simp [results, Tryd.results12, go_sem, m0, m1, m2, m3, m4, m5]) rfl ?_
        exact .inr ⟨HNO.out, rfl, HB8.out⟩
      have HTX := Lib.hid (HT1.out HOK.out hte)
      have HXC := Lib.hid (HT2.out HTX.out).2.2
      have heq := text_eq' hte
      clear hte
      obtain ⟨n0, n1, n2, n3, n4, n5, nf⟩ := HMx6.out
      obtain ⟨m0, m1, m2, m3, m4, m5, mf⟩ := HM6.out
      go_wp2
      refine stop_body ⟨?_⟩
      intro w8 hw8
      have hm8 := HM6.out.all (.slice (some ⟨gE, 0, none⟩) x.els.length cE) (.slice A1 x.lims.length c1) (.int .i64 x.rep) (.int .i64 x.bon) (.int .i64 x.kee) (.int .i64 x.fal)
      have hb8 := below_six HB6.out w.heap.size (Nat.le_refl _) (.slice (some ⟨gE, 0, none⟩) x.els.length cE) (.slice A1 x.lims.length c1) (.int .i64 x.rep) (.int .i64 x.bon) (.int .i64 x.kee) (.int .i64 x.fal)
      have hk8 := only_six w6 w.heap.size (.slice (some ⟨gE, 0, none⟩) x.els.length cE) (.slice A1 x.lims.length c1) (.int .i64 x.rep) (.int .i64 x.bon) (.int .i64 x.kee) (.int .i64 x.fal)
      rw [show put6 w6 w.heap.size (.slice (some ⟨gE, 0, none⟩) x.els.length cE) (.slice A1 x.lims.length c1) (.int .i64 x.rep) (.int .i64 x.bon) (.int .i64 x.kee) (.int .i64 x.fal) = w8 from hw8.symm] at hm8 hb8 hk8
      have HB8 := Lib.hid hb8
      have HE8 := Lib.hid (HE6.out.block (hk8.block gE HSE6.out.2.1 (by have := HSE6.out; have := HS3.out; omega)))
      have HL8 := Lib.hid (HL6.out.keep hk8 (fun i h1 h2 => by have := HS22.out; omega))
      have HS8 := Lib.hid (show gE < w8.heap.size from Nat.lt_of_lt_of_le HSE6.out.2.1 hk8.size)
      clear hw8 hb8 hk8 m0 m1 m2 m3 m4 m5 mf n0 n1 n2 n3 n4 n5 nf
      obtain ⟨m0, m1, m2, m3, m4, m5, mf⟩ := hm8
      refine bodyPost_ret (v := .tuple #[.agg #[.slice (some ⟨gE, 0, none⟩) x.els.length cE, .slice A1 x.lims.length c1, .int .i64 x.rep, .int .i64 x.bon, .int .i64 x.kee, .int .i64 x.fal], .bool true]) (by simp [results, Tryd.results12, go_sem, m0, m1, m2, m3, m4, m5]) rfl ?_
      obtain ⟨gL, oL, rfl, ⟨⟨hL1, hL2⟩, hL3⟩, hL4, hL5⟩ := HL8.out (by have := HOK.out.lims.len; omega)
      refine .inl ⟨HTX.out, ⟨⟨some ⟨gE, 0, none⟩, cE, some ⟨gL, oL, none⟩, c1, gE, gL, ?_, ?_, ?_, ?_, ?_⟩, HB8.out⟩⟩
      · rw [HXC.out, pB_yes HTX.out]
      · rw [HXC.out]
        exact ⟨fun _ => ⟨gE, 0, rfl, rfl, HS8.out, HE8.out⟩, fun _ => ⟨gL, oL, rfl, rfl, hL4, hL5⟩⟩
      · have := HSE6.out; omega
      · have := HSE6.out; have := HS3.out; exact ⟨by omega, HS8.out⟩
      · have := HS22.out; exact ⟨by omega, hL4⟩
end Go.Proofs.YtnlcdfaojcnkpaaDoor
