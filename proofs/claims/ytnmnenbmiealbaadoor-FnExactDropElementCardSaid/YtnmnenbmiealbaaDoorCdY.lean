/- A code without one element, in the model and in the program. -/
import Derived.Test.YtnmnenbmiealbaaDoorCdX
import Derived.Test.YtnmnenbmiealbaaDoorCdF
namespace Go.Proofs.YtnmnenbmiealbaaDoor
open Go.ChangeShapes Go.WideShapes Go.ChangeAt Go.RowKit Go.PlainAid Go.Sort
set_option linter.unusedVariables false

def drCd (x : Cd) (i : Nat) : Cd := { x with els := x.els.eraseIdx i }
def DrOk (x : Cd) (r : Int) : Prop := (CdOk x ∧ 0 ≤ r) ∧ CdOk (drCd x r.toNat)
noncomputable def drR (x : Cd) (r : Int) : Cd := @ite _ (DrOk x r) (Classical.propDecidable _) (drCd x r.toNat) Cd.zero
theorem drR_yes {x : Cd} {r : Int} (h : DrOk x r) : drR x r = drCd x r.toNat := by unfold drR; exact @if_pos _ (Classical.propDecidable _) h _ _ _
theorem drR_no {x : Cd} {r : Int} (h : ¬ DrOk x r) : drR x r = Cd.zero := by unfold drR; exact @if_neg _ (Classical.propDecidable _) h _ _ _
theorem drR_fits (x : Cd) (r : Int) : CdFits (drR x r) := by
  by_cases h : DrOk x r
  · rw [drR_yes h]
    exact Cd.fit h.2
  · rw [drR_no h]
    exact zero_fits
theorem it_mem {xs : List El} {i : Nat} (hi : i < xs.length) : it xs i ∈ xs := List.mem_of_getElem? (it_get xs i hi)
theorem mem_it {xs : List El} {y : El} (h : y ∈ xs) : ∃ i, i < xs.length ∧ it xs i = y := by
  obtain ⟨i, hi, he⟩ := List.mem_iff_getElem.1 h
  refine ⟨i, hi, ?_⟩
  have := it_get xs i hi
  rw [List.getElem?_eq_getElem hi] at this
  rw [← Option.some.inj this, he]
theorem drCd_fits {x : Cd} {i : Nat} (h : CdOk x) : CdFits (drCd x i) := by
  have hle : (x.els.eraseIdx i).length ≤ x.els.length := List.length_eraseIdx_le ..
  refine ⟨⟨?_, fun j hj => ?_⟩, ?_⟩
  · have := h.els.hi
    show (x.els.eraseIdx i).length ≤ _
    omega
  · obtain ⟨k, hk, he⟩ := mem_it (List.mem_of_mem_eraseIdx (it_mem hj))
    show (it (x.els.eraseIdx i) j).name.size ≤ _
    rw [← he]
    exact El.fit (h.els.el k hk)
  · have := h.lims.len
    show x.lims.length ≤ _
    omega
theorem ElRow.caps {w : World} {B g n cap : Nat} {xs : List El} (h : ElRow w B g n cap xs) : n ≤ cap ∧ cap ≤ 9223372036854775807 := by
  rcases h.1.2 with ⟨hv, _⟩ | ⟨g', cap', cur, hv, _, _, h1, h2, _⟩
  · cases hv
  · injection hv with _ _ hc
    rw [hc]
    exact ⟨h1, by unfold maxLen at h2; omega⟩

set_option maxHeartbeats 2000000 in
theorem iDrop_any (A L : Option Addr) (c d : Nat) (x : Cd) (n : ByteArray) (r : Int) (w : World) (hr : CdAt w A L x) (hl : CdFits x) (hf : First x.els n r) (ht : Tab w) :
    Calls Tryd.prog 15 #[x.val A c L d, .string n] w (CodeAns w (drR x r) (DrOk x r)) := by
  have HR := Lib.hid hr
  have HL := Lib.hid hl
  have HT := Lib.hid ht
  have HFF := Lib.hid hf
  clear hr hl ht hf
  unfold Cd.val
  go_enter Tryd.func15, Tryd.ntmps15
  go_wp2_with fail
  generalize hW : World.alloc (World.alloc w _) _ = W
  have hB : Below w.heap.size w W := by
    rw [← hW]
    go_grown
  have hS : W.heap.size = w.heap.size + 2 := by rw [← hW]; simp
  have hX : BoxAt W w.heap.size A c L d x := ⟨by omega, by
    rw [← hW]
    exact (cdBox_new w _ _ rfl A c L d x).below ((Below.refl _ _).alloc (Nat.le_refl _) _) (by simp)⟩
  have hM : CdMem W (w.heap.size + 1) (.slice none 0 0) (.slice none 0 0) (.int .i64 0) (.int .i64 0) (.int .i64 0) (.int .i64 0) := by
    rw [← hW]
    exact cdMem_new _ _ _ (by simp) _ _ _ _ _ _
  clear hW
  refine (iFind_any A L c d x n r W (HR.out.below hB) HL.out HFF.out (HT.out.next hB)).mono ?_
  rintro e w2 ⟨he, hb⟩
  have HM2 := Lib.hid (hM.below hb (by omega))
  have HX2 := Lib.hid (hX.next hb)
  have HR2 := Lib.hid ((HR.out.below hB).below hb)
  have HT2 := Lib.hid ((HT.out.next hB).next hb)
  have HB2 := Lib.hid (Below_next hB hb)
  have HS2 := Lib.hid (show w.heap.size + 2 ≤ w2.heap.size by rw [← hS]; exact hb.size)
  clear hB hb hX hM hS
  by_cases hq : CdOk x ∧ 0 ≤ r
  · rw [fndV_yes hq.1 hq.2] at he
    subst he
    obtain ⟨i, rfl, hi, _⟩ := HFF.out.bounds.2.2 hq.2
    have HOK := Lib.hid hq.1
    clear hq
    obtain ⟨d', hd'⟩ : ∃ d', x.els.length = i + 1 + d' := ⟨x.els.length - (i + 1), by omega⟩
    have HD := Lib.hid hd'
    clear hd'
    have h24 := HOK.out.els.hi
    obtain ⟨x0, x1, x2, x3, x4, x5⟩ := HX2.out.box
    go_wp2_with fail
    clear x0 x1 x2 x3 x4 x5
    refine (iCopy_any A L c d x w2 HR2.out HOK.out).mono ?_
    rintro e w3 ⟨g1, c1, g2, c2, rfl, ho, hi', h1, h2, h3, hb⟩
    obtain ⟨w4, hW, hB4⟩ := boxed 31 w3 (some ⟨g1, 0, none⟩) c1 (some ⟨g2, 0, none⟩) c2 x
    have hb4 := Below_next hb hB4.below
    have HM4 := Lib.hid (HM2.out.below hb4 (Nat.lt_of_lt_of_le (by omega) HS2.out))
    have HT4 := Lib.hid (HT2.out.next hb4)
    have HB4 := Lib.hid (Below_next HB2.out hb4)
    have hcaps := ho.caps
    have HE4 := Lib.hid (ho.own.next ho.lt hB4.below)
    have HI4 := Lib.hid (hi'.next h2 hB4.below)
    have HS4 := Lib.hid (show w2.heap.size ≤ g1 ∧ g1 < w3.heap.size ∧ w4.heap.size = w3.heap.size + 1 ∧ w2.heap.size ≤ g2 ∧ g2 < w3.heap.size ∧ g1 ≠ g2 from ⟨ho.le, ho.lt, hB4.size, h1, h2, h3⟩)
    unfold boxCd at hW
    have hYm : CdMem w4 w3.heap.size (.slice (some ⟨g1, 0, none⟩) x.els.length c1) (.slice (some ⟨g2, 0, none⟩) x.lims.length c2) (.int .i64 x.rep) (.int .i64 x.bon) (.int .i64 x.kee) (.int .i64 x.fal) := by rw [hW]; exact cdMem_new w3 _ _ rfl _ _ _ _ _ _
    have HY4 := Lib.hid hYm
    have hcall := delete_any g1 c1 i d' x.els w4 HE4.out HD.out (by have := HD.out; omega) hcaps.2 (by have := HD.out; omega)
    rw [← HD.out] at hcall
    have HDEL := Lib.hid hcall
    clear hb ho hi' h1 h2 h3 hB4 hb4 hYm hcall hcaps
    go_wp2_with fail
    rw [← hW]
    clear hW
    refine HDEL.out.mono ?_
    rintro e w5 ⟨rfl, hoe, hk⟩
    have hq2 := HS2.out
    have hq4 := HS4.out
    have HM5 := Lib.hid (HM4.out.only hk (by omega) (by omega))
    have hY5 := HY4.out.only hk (by omega) (by omega)
    have HI5 := Lib.hid (HI4.out.block (hk.block g2 (by omega) (by omega)))
    have HB5 := Lib.hid (HB4.out.trans (hk.below HB4.out.size (fun k e => by omega)))
    have HT5 := Lib.hid (HT4.out.only hk (by have := HT2.out.lt; omega))
    have hs5 := hk.size
    have HQ := Lib.hid (And.intro hq2 (And.intro hq4 hs5))
    have HY5 := Lib.hid hY5
    have HOE := Lib.hid hoe
    clear hk hq2 hq4 hs5 hoe
    obtain ⟨y0, y1, y2, y3, y4, y5, yf⟩ := hY5
    obtain ⟨w6, hw6⟩ : ∃ w6, w6 = w5.setCell ⟨w3.heap.size, 0, none⟩ (.slice (some ⟨g1, 0, none⟩) (i + d') c1) := ⟨_, rfl⟩
    have HY6 : Hid (CdMem w6 w3.heap.size (.slice (some ⟨g1, 0, none⟩) (i + d') c1) (.slice (some ⟨g2, 0, none⟩) x.lims.length c2) (.int .i64 x.rep) (.int .i64 x.bon) (.int .i64 x.kee) (.int .i64 x.fal)) := Lib.hid (by rw [hw6]; exact HY5.out.set0 _)
    have hk6 : Only (fun k => k = w3.heap.size) w5 w6 := by rw [hw6]; exact (Only.refl (fun k => k = w3.heap.size) w5).put w3.heap.size 0 rfl _
    have HM6 := Lib.hid (HM5.out.only hk6 (by have := HQ.out; omega) (by have := HQ.out; omega))
    have HO6 := Lib.hid (HOE.out.block (hk6.block g1 (by have := HQ.out; omega) (by have := HQ.out; omega)))
    have HI6 := Lib.hid (HI5.out.block (hk6.block g2 (by have := HQ.out; omega) (by have := HQ.out; omega)))
    have HB6 := Lib.hid (HB5.out.trans (hk6.below HB5.out.size (fun k e => by have := HQ.out; omega)))
    have HT6 := Lib.hid (HT5.out.only hk6 (by have := HQ.out; have := HT2.out.lt; omega))
    have HS6 := Lib.hid (show g1 < w6.heap.size ∧ g2 < w6.heap.size ∧ w.heap.size + 1 < w6.heap.size ∧ g1 ≠ g2 ∧ w.heap.size + 2 ≤ g1 ∧ w.heap.size + 2 ≤ g2 by have := HQ.out; have := hk6.size; omega)
    have HW6 := Lib.hid hw6
    clear hk6 hw6
    go_wp2_with fail
    rw [← HW6.out]
    have hRl : (drCd x i).els.length = i + d' := by
      show (x.els.eraseIdx i).length = _
      rw [List.length_eraseIdx, if_pos (by have := HD.out; omega)]
      have := HD.out
      omega
    have hat : CdAt w6 (some ⟨g1, 0, none⟩) (some ⟨g2, 0, none⟩) (drCd x i) := ⟨fun _ => ⟨g1, 0, rfl, HS6.out.1, HO6.out.cell⟩, fun _ => ⟨g2, 0, rfl, HS6.out.2.1, HI6.out.cell⟩⟩
    have hcall := iIfValid_any (some ⟨g1, 0, none⟩) (some ⟨g2, 0, none⟩) c1 c2 (drCd x i) w6 hat (drCd_fits HOK.out) HT6.out
    unfold Cd.val at hcall
    rw [hRl] at hcall
    have HCALL := Lib.hid hcall
    clear hcall hat hRl
    clear y0 y1 y2 y3 y4 y5 yf
    refine HCALL.out.mono ?_
    rintro e w7 ⟨hy, hn, hb⟩
    have HM7 := Lib.hid (HM6.out.below hb HS6.out.2.2.1)
    have HO7 := Lib.hid (HO6.out.block (hb.block g1 HS6.out.1))
    have HI7 := Lib.hid (HI6.out.block (hb.block g2 HS6.out.2.1))
    have HB7 := Lib.hid (Below_next HB6.out hb)
    have HS7 := Lib.hid hb.size
    clear hb
    obtain ⟨m0, m1, m2, m3, m4, m5, mf⟩ := HM7.out
    by_cases hR : CdOk (drCd x i)
    · have HRR := Lib.hid (show DrOk x (i : Int) from ⟨⟨HOK.out, by omega⟩, by rw [Int.toNat_natCast]; exact hR⟩)
      have he := hy hR
      clear hy hn hR
      subst he
      go_wp2
      refine stop_body ⟨?_⟩
      intro w8 hw8
      have hm8 := HM7.out.all (.slice (some ⟨g1, 0, none⟩) (i + d') c1) (.slice (some ⟨g2, 0, none⟩) x.lims.length c2) (.int .i64 x.rep) (.int .i64 x.bon) (.int .i64 x.kee) (.int .i64 x.fal)
      have hk8 := only_six w7 (w.heap.size + 1) (.slice (some ⟨g1, 0, none⟩) (i + d') c1) (.slice (some ⟨g2, 0, none⟩) x.lims.length c2) (.int .i64 x.rep) (.int .i64 x.bon) (.int .i64 x.kee) (.int .i64 x.fal)
      rw [show put6 w7 (w.heap.size + 1) (.slice (some ⟨g1, 0, none⟩) (i + d') c1) (.slice (some ⟨g2, 0, none⟩) x.lims.length c2) (.int .i64 x.rep) (.int .i64 x.bon) (.int .i64 x.kee) (.int .i64 x.fal) = w8 from hw8.symm] at hm8 hk8
      have HK8 := Lib.hid hk8
      clear hw8 hk8 m0 m1 m2 m3 m4 m5 mf
      obtain ⟨m0, m1, m2, m3, m4, m5, mf⟩ := hm8
      refine bodyPost_ret (v := .tuple #[.agg #[.slice (some ⟨g1, 0, none⟩) (i + d') c1, .slice (some ⟨g2, 0, none⟩) x.lims.length c2, .int .i64 x.rep, .int .i64 x.bon, .int .i64 x.kee, .int .i64 x.fal], .bool true]) (by simp [results, Tryd.results15, go_sem, m0, m1, m2, m3, m4, m5]) rfl ?_
      refine ⟨⟨some ⟨g1, 0, none⟩, c1, some ⟨g2, 0, none⟩, c2, g1, g2, ?_, ?_, HS6.out.2.2.2.1, ?_, ?_⟩, HB7.out.trans (HK8.out.below HB7.out.size (fun k hk => by omega))⟩
      · rw [drR_yes HRR.out, pB_yes HRR.out, Int.toNat_natCast]
        show _ = Ending.returned (.tuple #[.agg #[.slice (some ⟨g1, 0, none⟩) (drCd x i).els.length c1, _, _, _, _, _], _])
        rw [show (drCd x i).els.length = i + d' by show (x.els.eraseIdx i).length = _; rw [List.length_eraseIdx, if_pos (by have := HD.out; omega)]; have := HD.out; omega]
        rfl
      · rw [drR_yes HRR.out, Int.toNat_natCast]
        exact ⟨fun _ => ⟨g1, 0, rfl, rfl, Nat.lt_of_lt_of_le (Nat.lt_of_lt_of_le HS6.out.1 HS7.out) HK8.out.size, HO7.out.block (HK8.out.block g1 (Nat.lt_of_lt_of_le HS6.out.1 HS7.out) (by have := HS6.out; omega))⟩, fun _ => ⟨g2, 0, rfl, rfl, Nat.lt_of_lt_of_le (Nat.lt_of_lt_of_le HS6.out.2.1 HS7.out) HK8.out.size, HI7.out.block (HK8.out.block g2 (Nat.lt_of_lt_of_le HS6.out.2.1 HS7.out) (by have := HS6.out; omega))⟩⟩
      · have := HS6.out; have := HS7.out; have := HK8.out.size; omega
      · have := HS6.out; have := HS7.out; have := HK8.out.size; omega
    · have HRR := Lib.hid (fun h : DrOk x (i : Int) => hR (by have := h.2; rwa [Int.toNat_natCast] at this))
      have he := hn hR
      clear hy hn hR
      subst he
      unfold Cd.zero
      go_wp2
      refine stop_body ⟨?_⟩
      intro w8 hw8
      have hm8 := HM7.out.all (.slice none 0 0) (.slice none 0 0) (.int .i64 0) (.int .i64 0) (.int .i64 0) (.int .i64 0)
      have hk8 := only_six w7 (w.heap.size + 1) (.slice none 0 0) (.slice none 0 0) (.int .i64 0) (.int .i64 0) (.int .i64 0) (.int .i64 0)
      rw [show put6 w7 (w.heap.size + 1) (.slice none 0 0) (.slice none 0 0) (.int .i64 0) (.int .i64 0) (.int .i64 0) (.int .i64 0) = w8 from hw8.symm] at hm8 hk8
      have HK8 := Lib.hid hk8
      clear hw8 hk8 m0 m1 m2 m3 m4 m5 mf
      obtain ⟨m0, m1, m2, m3, m4, m5, mf⟩ := hm8
      refine bodyPost_ret (v := .tuple #[.agg #[.slice none 0 0, .slice none 0 0, .int .i64 0, .int .i64 0, .int .i64 0, .int .i64 0], .bool false]) (by simp [results, Tryd.results15, go_sem, m0, m1, m2, m3, m4, m5]) rfl ?_
      exact codeAns_no HRR.out (drR_no HRR.out) rfl (by have := HS6.out; have := HS7.out; have := HK8.out.size; omega) (HB7.out.trans (HK8.out.below HB7.out.size (fun k hk => by omega)))

  · rw [fndV_no hq] at he
    subst he
    have HRR := Lib.hid (fun h : DrOk x r => hq h.1)
    clear hq
    obtain ⟨m0, m1, m2, m3, m4, m5, mf⟩ := HM2.out
    go_wp2
    refine stop_body ⟨?_⟩
    intro w8 hw8
    have hm8 := HM2.out.all (.slice none 0 0) (.slice none 0 0) (.int .i64 0) (.int .i64 0) (.int .i64 0) (.int .i64 0)
    have hk8 := only_six w2 (w.heap.size + 1) (.slice none 0 0) (.slice none 0 0) (.int .i64 0) (.int .i64 0) (.int .i64 0) (.int .i64 0)
    rw [show put6 w2 (w.heap.size + 1) (.slice none 0 0) (.slice none 0 0) (.int .i64 0) (.int .i64 0) (.int .i64 0) (.int .i64 0) = w8 from hw8.symm] at hm8 hk8
    have HK8 := Lib.hid hk8
    clear hw8 hk8 m0 m1 m2 m3 m4 m5 mf
    obtain ⟨m0, m1, m2, m3, m4, m5, mf⟩ := hm8
    refine bodyPost_ret (v := .tuple #[.agg #[.slice none 0 0, .slice none 0 0, .int .i64 0, .int .i64 0, .int .i64 0, .int .i64 0], .bool false]) (by simp [results, Tryd.results15, go_sem, m0, m1, m2, m3, m4, m5]) rfl ?_
    exact codeAns_no HRR.out (drR_no HRR.out) rfl (by have := HS2.out; have := HK8.out.size; omega) (HB2.out.trans (HK8.out.below HB2.out.size (fun k hk => by omega)))


theorem flat_take (xs : List El) (k j : Nat) (u : Value) (h : ((xs.take k).flatMap (Flat.cells (α := El)))[j]? = some u) : (xs.flatMap Flat.cells)[j]? = some u := by
  conv => lhs; rw [← List.take_append_drop k xs, List.flatMap_append]
  rw [List.getElem?_append_left (List.getElem?_eq_some_iff.1 h).1]
  exact h
theorem flat_drop (xs : List El) (k j : Nat) (u : Value) (hk : k ≤ xs.length) (h : ((xs.drop k).flatMap (Flat.cells (α := El)))[j]? = some u) : (xs.flatMap Flat.cells)[k * 4 + j]? = some u := by
  have htl : ((xs.take k).flatMap (Flat.cells (α := El))).length = k * 4 := by rw [flat_len, List.length_take, Nat.min_eq_left hk]; rfl
  conv => lhs; rw [← List.take_append_drop k xs, List.flatMap_append]
  rw [List.getElem?_append_right (by rw [htl]; omega), htl, Nat.add_sub_cancel_left]
  exact h
theorem take_src {w W : World} {B : Nat} {A : Option Addr} {xs : List El} (h : Lst w B A xs) (hb : Below B w W) (k m : Nat) (hk : k ≤ xs.length) (hm : m = k) : 0 < m → ∃ ad, A = some ad ∧ ∀ j u, ((xs.take k).flatMap Flat.cells)[j]? = some u → W.cell? (ad.add j) = some u := fun hp => by
  obtain ⟨ad, he, hc⟩ := el_src h hb (by omega)
  exact ⟨ad, he, fun j u hj => hc j u (flat_take xs k j u hj)⟩
theorem add_off (b o j : Nat) : (⟨b, o, none⟩ : Addr).add j = ⟨b, o + j, none⟩ := by
  unfold Addr.add
  by_cases e : j = 0 <;> simp [e]
theorem drop_src {w W : World} {B b o : Nat} {xs : List El} (h : Lst w B (some ⟨b, o, none⟩) xs) (hb : Below B w W) (k m : Nat) (hk : k ≤ xs.length) : 0 < m → ∃ ad, some (⟨b, o + k * 4, none⟩ : Addr) = some ad ∧ ∀ j u, ((xs.drop k).flatMap Flat.cells)[j]? = some u → W.cell? (ad.add j) = some u := fun _ => by
  refine ⟨_, rfl, fun j u hj => ?_⟩
  have hlen := (List.getElem?_eq_some_iff.1 hj).1
  rw [flat_len, List.length_drop] at hlen
  have hs : Flat.sz El = 4 := rfl
  obtain ⟨ad, he, hc⟩ := el_src h hb (by rw [hs] at hlen; omega)
  cases he
  have := hc _ u (flat_drop xs k j u hk hj)
  rw [add_off] at this ⊢
  rw [← this, Nat.add_assoc]
theorem take_drop_cells (xs : List El) (i : Nat) : (xs.take i).flatMap Flat.cells ++ (xs.drop (i + 1)).flatMap Flat.cells = (xs.eraseIdx i).flatMap (Flat.cells (α := El)) := by
  rw [List.eraseIdx_eq_take_drop_succ, List.flatMap_append]
theorem own_from {B a : Nat} {o p : Option Nat} (h : o = p ∨ o = some a) (hp : ∀ k, p = some k → B ≤ k) (ha : B ≤ a) : ∀ k, o = some k → B ≤ k := fun k e => by
  rcases h with h | h
  · exact hp k (h ▸ e)
  · rw [h] at e
    cases e
    exact ha
theorem row_any {w : World} {B sz n : Nat} {e : TypeId} {v : Value} {cs : List Value} (h : w.ownsRow B e sz v n cs) : ∃ G cap, v = .slice G n cap ∧ (0 < n → ∃ g, G = some ⟨g, 0, none⟩ ∧ B ≤ g ∧ g < w.heap.size) := by
  rcases h.2 with ⟨rfl, rfl⟩ | ⟨g, cap, cur, rfl, _⟩
  · exact ⟨none, 0, rfl, fun h => absurd h (Nat.lt_irrefl _)⟩
  · exact ⟨_, cap, rfl, fun _ => ⟨g, rfl, (h.lt g rfl).1, (h.lt g rfl).2⟩⟩

set_option maxHeartbeats 2000000 in
theorem sDrop_any (A L : Option Addr) (c d : Nat) (x : Cd) (n : ByteArray) (r : Int) (w : World) (hr : CdAt w A L x) (hl : CdFits x) (hf : First x.els n r) (hc : x.els.length ≤ c ∧ c ≤ 9223372036854775807) :
    Calls Tryd.prog 14 #[x.val A c L d, .string n] w (CodeAns w (drR x r) (DrOk x r)) := by
  have HR := Lib.hid hr
  have HL := Lib.hid hl
  have HFF := Lib.hid hf
  have HC := Lib.hid hc
  obtain ⟨i0, hi, hz0, hz1, hz2⟩ := info_parts Tryd.infoEl
  have HZ := Lib.hid (And.intro hi (And.intro hz0 (And.intro hz1 hz2)))
  clear hr hl hf hc hi hz0 hz1 hz2
  unfold Cd.val
  go_enter Tryd.func14, Tryd.ntmps14
  go_wp2_with fail
  generalize hW : World.alloc (World.alloc w _) _ = W
  have hB : Below w.heap.size w W := by
    rw [← hW]
    go_grown
  have hS : W.heap.size = w.heap.size + 2 := by rw [← hW]; simp
  have hX : BoxAt W w.heap.size A c L d x := ⟨by omega, by
    rw [← hW]
    exact (cdBox_new w _ _ rfl A c L d x).below ((Below.refl _ _).alloc (Nat.le_refl _) _) (by simp)⟩
  have hM : CdMem W (w.heap.size + 1) (.slice none 0 0) (.slice none 0 0) (.int .i64 0) (.int .i64 0) (.int .i64 0) (.int .i64 0) := by
    rw [← hW]
    exact cdMem_new _ _ _ (by simp) _ _ _ _ _ _
  clear hW
  refine (cdFind_any A L c d x n r W (HR.out.below hB) HL.out HFF.out).mono ?_
  rintro e w2 ⟨he, hb⟩
  have HM2 := Lib.hid (hM.below hb (by omega))
  have HX2 := Lib.hid (hX.next hb)
  have HR2 := Lib.hid ((HR.out.below hB).below hb)
  have HB2 := Lib.hid (Below_next hB hb)
  have HS2 := Lib.hid (show w.heap.size + 2 ≤ w2.heap.size by rw [← hS]; exact hb.size)
  clear hB hb hX hM hS
  subst he
  obtain ⟨x0, x1, x2, x3, x4, x5⟩ := HX2.out.box
  go_wp2_with fail
  clear x0 x1 x2 x3 x4 x5
  refine (cdGood_any A L c d x w2 HR2.out HL.out).mono ?_
  rintro e w3 ⟨he, hb⟩
  have HM3 := Lib.hid (HM2.out.below hb (Nat.lt_of_lt_of_le (by omega) HS2.out))
  have HX3 := Lib.hid (HX2.out.next hb)
  have HR3 := Lib.hid (HR2.out.below hb)
  have HB3 := Lib.hid (Below_next HB2.out hb)
  have HS3 := Lib.hid (Nat.le_trans HS2.out hb.size)
  clear hb
  by_cases hok : CdOk x
  · rw [pB_yes hok] at he
    subst he
    have HOK := Lib.hid hok
    clear hok
    by_cases h0 : 0 ≤ r
    · obtain ⟨i, rfl, hi, _⟩ := HFF.out.bounds.2.2 h0
      obtain ⟨d', hd'⟩ : ∃ d', x.els.length = i + 1 + d' := ⟨x.els.length - (i + 1), by omega⟩
      have HD := Lib.hid hd'
      have h24 := HOK.out.els.hi
      clear hd'
      obtain ⟨x0, x1, x2, x3, x4, x5⟩ := HX3.out.box
      go_wp2_with fail
      clear x0 x1 x2 x3 x4 x5
      refine (sOwn_any A L c d x w3 HR3.out HOK.out).mono ?_
      rintro e w4 ⟨g1, c1, g2, c2, rfl, hn, hb⟩
      obtain ⟨w5, hW, hB5⟩ := boxed 31 w4 (some ⟨g1, 0, none⟩) c1 (some ⟨g2, 0, none⟩) c2 x
      have hb5 := Below_next hb hB5.below
      have HMT := Lib.hid (show w.heap.size + 1 < w5.heap.size by have := HS3.out; have := hb5.size; omega)
      have HM5 := Lib.hid (HM3.out.below hb5 (Nat.lt_of_lt_of_le (by omega) HS3.out))
      have HX5 := Lib.hid (HX3.out.next hb5)
      have HR5 := Lib.hid (HR3.out.below hb5)
      have HB5 := Lib.hid (Below_next HB3.out hb5)
      unfold boxCd at hW
      have hYm : CdMem w5 w4.heap.size (.slice (some ⟨g1, 0, none⟩) x.els.length c1) (.slice (some ⟨g2, 0, none⟩) x.lims.length c2) (.int .i64 x.rep) (.int .i64 x.bon) (.int .i64 x.kee) (.int .i64 x.fal) := by rw [hW]; exact cdMem_new w4 _ _ rfl _ _ _ _ _ _
      have HY5 := Lib.hid hYm
      have HI5 := Lib.hid (hn.lims.next hn.lt2 hB5.below)
      have HS5 := Lib.hid (show w3.heap.size ≤ g2 ∧ g2 < w4.heap.size ∧ w5.heap.size = w4.heap.size + 1 from ⟨hn.le2, hn.lt2, hB5.size⟩)
      clear hb hn hB5 hb5 hYm
      obtain ⟨x0, x1, x2, x3, x4, x5⟩ := HX3.out.box
      go_wp2_with fail
      rw [← hW]
      clear hW x0 x1 x2 x3 x4 x5
      obtain ⟨b, o, rfl, hbl, _⟩ := HR.out.els.el' (by omega)
      have HXd := Lib.hid (HX5.out.next (below_drewn w5)).box.c0
      have HXa := Lib.hid (fun ob => (HX5.out.next (below_adn w5 ob)).box.c0)
      have HNE := Lib.hid (show ((⟨w4.heap.size, 0, none⟩ : Addr)).block ≠ ((⟨w.heap.size, 0, none⟩ : Addr)).block by have := HS5.out; have := HMT.out; simp only; omega)
      have hd2 := HD.out
      have hc2 := HC.out
      have q0 : (0 : Int) ≤ (i : Int) := by omega
      have q1 : (i : Int) ≤ (c : Int) := by omega
      have q2 : (0 : Int) ≤ (i : Int) + 1 := by omega
      have q3 : (i : Int) + 1 ≤ (x.els.length : Int) := by omega
      have q4 : (x.els.length : Int) ≤ (c : Int) := by omega
      have q5 : ((i : Int) + 1).toNat = i + 1 := by omega
      have q7 : x.els.length - (i + 1) = d' := by omega
      have q8 : IntKind.i64.wrap ((i : Int) + 1) = (i : Int) + 1 := IntWalk.i64_in _ (by omega)
      have q9 : (i : Int) ≤ (i : Int) + 1 := by omega
      have q10 : (i : Int) ≤ ((i + 1 : Nat) : Int) := by omega
      have HPRE1 := Lib.hid trivial
      have hi24 : i ≤ 24 := by omega
      have hd24 : d' ≤ 24 := by omega
      have hle : i + 1 ≤ x.els.length := by omega
      clear hd2 hc2
      by_cases hcap : c = i + 1
      · have HD0 := Lib.hid (show d' = 0 by have := HD.out; have := HC.out; omega)
        subst hcap
        have HCI := Lib.hid (rfl : i + 1 = i + 1)
        go_region_held3 (fun w' => w'.cell? ⟨w.heap.size, 0, none⟩ = some (.slice (some ⟨b, o, none⟩) x.els.length (i + 1)))
          (first | (with_reducible exact HXd.out) | (with_reducible exact HXa.out _) | (with_reducible exact HK6.out) | (with_reducible exact HK7.out) | (with_reducible exact HK7s.out _))
          (first
            | (have hpre := HPRE1; clear hpre HPRE1; refine step_append_srcN _ (by rfl) (.tmp 21) (.tmp 25) 29 (by rfl) w5.heap.size 72 i0 (.agg #[.string ⟨#[]⟩, .int .i64 0, .int .i64 0, .int .i64 0]) 4 40 (by decide) Tryd.underlying29 HZ.out.1 HZ.out.2.1 HZ.out.2.2.1 HZ.out.2.2.2 rfl (.slice (some ⟨w5.heap.size, 0, none⟩) 0 0) 0 [] (by rfl) (owns_emptyN _ _ _ _ _ (Nat.le_refl _) (heap_at_new w5 _ _ rfl)) (some ⟨b, o, none⟩) i _ ((x.els.take i).flatMap Flat.cells) (by rfl) (by rw [flat_len, List.length_take, Nat.min_eq_left (by omega)]; rfl) (take_src HR5.out.els (below_adn w5 _) i i (by omega) rfl) (el_one _) (by unfold maxLen; omega) (by omega) (by simp) ?_; intro v6 w6 hown6 hgrow6 hat6; rw [Nat.zero_add, List.nil_append] at hown6; have hb6 := Below.grown (below_adn w5 _) hgrow6 (by simp) (fun kk e => by simp [Value.ownBlock] at e; omega); have HK6 := Lib.hid (HX5.out.next hb6).box.c0; have HR6 := Lib.hid (HR5.out.below hb6); have HO6 := Lib.hid hown6; have HAT6 := Lib.hid (own_from (B := w5.heap.size) hat6 (by simp [Value.ownBlock]) (by simp)); have HB56 := Lib.hid hb6; have HPRE2 := Lib.hid trivial; clear hown6 hgrow6 hat6 hb6)
            | (have hpre := HPRE2; clear hpre HPRE2; refine step_append_srcN _ (by rfl) (.tmp 26) (.tmp 31) 29 (by rfl) w5.heap.size 72 i0 (.agg #[.string ⟨#[]⟩, .int .i64 0, .int .i64 0, .int .i64 0]) 4 40 (by decide) Tryd.underlying29 HZ.out.1 HZ.out.2.1 HZ.out.2.2.1 HZ.out.2.2.2 rfl v6 i _ (by rfl) HO6.out (some ⟨b, o, none⟩) d' _ ((x.els.drop (i + 1)).flatMap Flat.cells) (by rfl) (by rw [flat_len, List.length_drop]; have := HD.out; show _ * 4 = _; omega) (fun hp => absurd HD0.out (Nat.ne_of_gt hp)) (el_one _) (by unfold maxLen; omega) (by omega) HB56.out.size ?_; intro v7 w7 hown7 hgrow7 hat7; rw [take_drop_cells] at hown7; obtain ⟨G7, c7, rfl, hG7⟩ := row_any hown7; have hb7 := Below.grown HB56.out hgrow7 HB56.out.size HAT6.out; have HK7 := Lib.hid (HX5.out.next hb7).box.c0; have HK7s := Lib.hid (show ∀ u, (w7.setCell ⟨w4.heap.size, 0, none⟩ u).cell? ⟨w.heap.size, 0, none⟩ = some (.slice (some ⟨b, o, none⟩) x.els.length (i + 1)) from fun u => (World.cell?_setCell_far w7 ⟨w4.heap.size, 0, none⟩ _ _ HNE.out).trans (HX5.out.next hb7).box.c0); have HB57 := Lib.hid hb7; have HO7 := Lib.hid hown7; have HG7 := Lib.hid hG7; have HY7 := Lib.hid (HY5.out.below hb7 (by have := HS5.out; omega)); obtain ⟨y0, y1, y2, y3, y4, y5, yf⟩ := HY7.out; clear hown7 hgrow7 hat7 hb7 hG7)
            | fail)
        obtain ⟨w8, hw8⟩ : ∃ w8, w8 = w7.setCell ⟨w4.heap.size, 0, none⟩ (.slice G7 (i + d') c7) := ⟨_, rfl⟩
        rw [← hw8]
        clear y0 y1 y2 y3 y4 y5 yf
        have hk8 : Only (fun k => k = w4.heap.size) w7 w8 := by rw [hw8]; exact (Only.refl (fun k => k = w4.heap.size) w7).put w4.heap.size 0 rfl _
        have HQ := Lib.hid (show w3.heap.size ≤ g2 ∧ g2 < w4.heap.size ∧ w5.heap.size = w4.heap.size + 1 ∧ w5.heap.size ≤ w7.heap.size ∧ w7.heap.size ≤ w8.heap.size ∧ w.heap.size + 2 ≤ w3.heap.size from ⟨HS5.out.1, HS5.out.2.1, HS5.out.2.2, HB57.out.size, hk8.size, HS3.out⟩)
        have HY8 : Hid (CdMem w8 w4.heap.size (.slice G7 (i + d') c7) (.slice (some ⟨g2, 0, none⟩) x.lims.length c2) (.int .i64 x.rep) (.int .i64 x.bon) (.int .i64 x.kee) (.int .i64 x.fal)) := Lib.hid (by rw [hw8]; exact HY7.out.set0 _)
        have HM8 := Lib.hid ((HM5.out.below HB57.out HMT.out).only hk8 (by have := HQ.out; omega) (by have := HQ.out; omega))
        have HI8 := Lib.hid ((HI5.out.block (HB57.out.block g2 (by have := HQ.out; omega))).block (hk8.block g2 (by have := HQ.out; omega) (by have := HQ.out; omega)))
        have HB8 := Lib.hid ((Below_next HB5.out HB57.out).trans (hk8.below (Below_next HB5.out HB57.out).size (fun k e => by have := HQ.out; omega)))
        have HLEN := Lib.hid (show (x.els.eraseIdx i).length = i + d' by rw [List.length_eraseIdx, if_pos (by have := HD.out; omega)]; have := HD.out; omega)
        have HA8 := Lib.hid (show 0 < i + d' → ∃ g, G7 = some ⟨g, 0, none⟩ ∧ g < w8.heap.size ∧ OwnAt w8 g 0 (x.els.eraseIdx i) ∧ w5.heap.size ≤ g from fun hp => by
          obtain ⟨g, he, h1, h2⟩ := HG7.out hp
          have ho := HO7.out
          rw [he, ← HLEN.out] at ho
          exact ⟨g, he, Nat.lt_of_lt_of_le h2 hk8.size, (own_of_row (α := El) (cap := c7) (e := 72) (base := w5.heap.size) (x.els.eraseIdx i) ho).block (hk8.block g h2 (by have := HQ.out; omega)), h1⟩)
        clear hk8 hw8
        have hat : CdAt w8 G7 (some ⟨g2, 0, none⟩) (drCd x i) := ⟨fun hp => by
          obtain ⟨g, he, h1, h2, _⟩ := HA8.out (by rw [← HLEN.out]; exact hp)
          exact ⟨g, 0, he, h1, h2.cell⟩, fun _ => ⟨g2, 0, rfl, by have := HQ.out; omega, HI8.out.cell⟩⟩
        have hcall := sIf_any G7 (some ⟨g2, 0, none⟩) c7 c2 (drCd x i) w8 hat (drCd_fits HOK.out)
        unfold Cd.val at hcall
        rw [show (drCd x i).els.length = i + d' from HLEN.out] at hcall
        have HCALL := Lib.hid hcall
        clear hcall hat
        obtain ⟨y0, y1, y2, y3, y4, y5, yf⟩ := HY8.out
        go_wp2_with fail
        clear y0 y1 y2 y3 y4 y5 yf
        refine HCALL.out.mono ?_
        rintro e w9 ⟨hy, hn, hb⟩
        have HM9 := Lib.hid (HM8.out.below hb (by have := HQ.out; omega))
        have HI9 := Lib.hid (HI8.out.block (hb.block g2 (by have := HQ.out; omega)))
        have HB9 := Lib.hid (Below_next HB8.out hb)
        have HS9 := Lib.hid hb.size
        have HB89 := Lib.hid hb
        clear hb
        obtain ⟨m0, m1, m2, m3, m4, m5, mf⟩ := HM9.out
        by_cases hR : CdOk (drCd x i)
        · have HRR := Lib.hid (show DrOk x (i : Int) from ⟨⟨HOK.out, by omega⟩, by rw [Int.toNat_natCast]; exact hR⟩)
          obtain ⟨g1, rfl, h1, ho, h2⟩ := HA8.out (by rw [← HLEN.out]; exact hR.els.lo)
          have HO9 := Lib.hid (ho.block (HB89.out.block g1 h1))
          have he := hy hR
          clear hy hn hR ho
          subst he
          go_wp2
          refine stop_body ⟨?_⟩
          intro wz hwz
          have hmz := HM9.out.all (.slice (some ⟨g1, 0, none⟩) (i + d') c7) (.slice (some ⟨g2, 0, none⟩) x.lims.length c2) (.int .i64 x.rep) (.int .i64 x.bon) (.int .i64 x.kee) (.int .i64 x.fal)
          have hkz := only_six w9 (w.heap.size + 1) (.slice (some ⟨g1, 0, none⟩) (i + d') c7) (.slice (some ⟨g2, 0, none⟩) x.lims.length c2) (.int .i64 x.rep) (.int .i64 x.bon) (.int .i64 x.kee) (.int .i64 x.fal)
          rw [show put6 w9 (w.heap.size + 1) (.slice (some ⟨g1, 0, none⟩) (i + d') c7) (.slice (some ⟨g2, 0, none⟩) x.lims.length c2) (.int .i64 x.rep) (.int .i64 x.bon) (.int .i64 x.kee) (.int .i64 x.fal) = wz from hwz.symm] at hmz hkz
          have HKZ := Lib.hid hkz
          clear hwz hkz m0 m1 m2 m3 m4 m5 mf
          obtain ⟨m0, m1, m2, m3, m4, m5, mf⟩ := hmz
          refine bodyPost_ret (v := .tuple #[.agg #[.slice (some ⟨g1, 0, none⟩) (i + d') c7, .slice (some ⟨g2, 0, none⟩) x.lims.length c2, .int .i64 x.rep, .int .i64 x.bon, .int .i64 x.kee, .int .i64 x.fal], .bool true]) (by simp [results, Tryd.results14, go_sem, m0, m1, m2, m3, m4, m5]) rfl ?_
          refine ⟨⟨some ⟨g1, 0, none⟩, c7, some ⟨g2, 0, none⟩, c2, g1, g2, ?_, ?_, by have := HQ.out; omega, ?_, ?_⟩, HB9.out.trans (HKZ.out.below HB9.out.size (fun k hk => by omega))⟩
          · rw [drR_yes HRR.out, pB_yes HRR.out, Int.toNat_natCast]
            show _ = Ending.returned (.tuple #[.agg #[.slice (some ⟨g1, 0, none⟩) (drCd x i).els.length c7, _, _, _, _, _], _])
            rw [show (drCd x i).els.length = i + d' from HLEN.out]
            rfl
          · rw [drR_yes HRR.out, Int.toNat_natCast]
            exact ⟨fun _ => ⟨g1, 0, rfl, rfl, by have := HQ.out; have := HS9.out; have := HKZ.out.size; omega, HO9.out.block (HKZ.out.block g1 (by have := HS9.out; omega) (by have := HQ.out; omega))⟩, fun _ => ⟨g2, 0, rfl, rfl, by have := HQ.out; have := HS9.out; have := HKZ.out.size; omega, HI9.out.block (HKZ.out.block g2 (by have := HQ.out; have := HS9.out; omega) (by have := HQ.out; omega))⟩⟩
          · have := HQ.out; have := HS9.out; have := HKZ.out.size; omega
          · have := HQ.out; have := HS9.out; have := HKZ.out.size; omega
        · have HRR := Lib.hid (fun h : DrOk x (i : Int) => hR (by have := h.2; rwa [Int.toNat_natCast] at this))
          have he := hn hR
          clear hy hn hR
          subst he
          unfold Cd.zero
          go_wp2
          refine stop_body ⟨?_⟩
          intro wz hwz
          have hmz := HM9.out.all (.slice none 0 0) (.slice none 0 0) (.int .i64 0) (.int .i64 0) (.int .i64 0) (.int .i64 0)
          have hkz := only_six w9 (w.heap.size + 1) (.slice none 0 0) (.slice none 0 0) (.int .i64 0) (.int .i64 0) (.int .i64 0) (.int .i64 0)
          rw [show put6 w9 (w.heap.size + 1) (.slice none 0 0) (.slice none 0 0) (.int .i64 0) (.int .i64 0) (.int .i64 0) (.int .i64 0) = wz from hwz.symm] at hmz hkz
          have HKZ := Lib.hid hkz
          clear hwz hkz m0 m1 m2 m3 m4 m5 mf
          obtain ⟨m0, m1, m2, m3, m4, m5, mf⟩ := hmz
          refine bodyPost_ret (v := .tuple #[.agg #[.slice none 0 0, .slice none 0 0, .int .i64 0, .int .i64 0, .int .i64 0, .int .i64 0], .bool false]) (by simp [results, Tryd.results14, go_sem, m0, m1, m2, m3, m4, m5]) rfl ?_
          exact codeAns_no HRR.out (drR_no HRR.out) rfl (by have := HQ.out; have := HS9.out; have := HKZ.out.size; omega) (HB9.out.trans (HKZ.out.below HB9.out.size (fun k hk => by omega)))
      · 
        go_region_held3 (fun w' => w'.cell? ⟨w.heap.size, 0, none⟩ = some (.slice (some ⟨b, o, none⟩) x.els.length c))
          (first | (with_reducible exact HXd.out) | (with_reducible exact HXa.out _) | (with_reducible exact HK6.out) | (with_reducible exact HK7.out) | (with_reducible exact HK7s.out _))
          (first
            | (have hpre := HPRE1; clear hpre HPRE1; refine step_append_srcN _ (by rfl) (.tmp 21) (.tmp 25) 29 (by rfl) w5.heap.size 72 i0 (.agg #[.string ⟨#[]⟩, .int .i64 0, .int .i64 0, .int .i64 0]) 4 40 (by decide) Tryd.underlying29 HZ.out.1 HZ.out.2.1 HZ.out.2.2.1 HZ.out.2.2.2 rfl (.slice (some ⟨w5.heap.size, 0, none⟩) 0 0) 0 [] (by rfl) (owns_emptyN _ _ _ _ _ (Nat.le_refl _) (heap_at_new w5 _ _ rfl)) (some ⟨b, o, none⟩) i _ ((x.els.take i).flatMap Flat.cells) (by rfl) (by rw [flat_len, List.length_take, Nat.min_eq_left (by omega)]; rfl) (take_src HR5.out.els (below_adn w5 _) i i (by omega) rfl) (el_one _) (by unfold maxLen; omega) (by omega) (by simp) ?_; intro v6 w6 hown6 hgrow6 hat6; rw [Nat.zero_add, List.nil_append] at hown6; have hb6 := Below.grown (below_adn w5 _) hgrow6 (by simp) (fun kk e => by simp [Value.ownBlock] at e; omega); have HK6 := Lib.hid (HX5.out.next hb6).box.c0; have HR6 := Lib.hid (HR5.out.below hb6); have HO6 := Lib.hid hown6; have HAT6 := Lib.hid (own_from (B := w5.heap.size) hat6 (by simp [Value.ownBlock]) (by simp)); have HB56 := Lib.hid hb6; have HPRE2 := Lib.hid trivial; clear hown6 hgrow6 hat6 hb6)
            | (have hpre := HPRE2; clear hpre HPRE2; refine step_append_srcN _ (by rfl) (.tmp 26) (.tmp 31) 29 (by rfl) w5.heap.size 72 i0 (.agg #[.string ⟨#[]⟩, .int .i64 0, .int .i64 0, .int .i64 0]) 4 40 (by decide) Tryd.underlying29 HZ.out.1 HZ.out.2.1 HZ.out.2.2.1 HZ.out.2.2.2 rfl v6 i _ (by rfl) HO6.out (some ⟨b, o + (i + 1) * 4, none⟩) d' _ ((x.els.drop (i + 1)).flatMap Flat.cells) (by rfl) (by rw [flat_len, List.length_drop]; have := HD.out; show _ * 4 = _; omega) (drop_src HR6.out.els (Below.refl _ _) (i + 1) d' (by omega)) (el_one _) (by unfold maxLen; omega) (by omega) HB56.out.size ?_; intro v7 w7 hown7 hgrow7 hat7; rw [take_drop_cells] at hown7; obtain ⟨G7, c7, rfl, hG7⟩ := row_any hown7; have hb7 := Below.grown HB56.out hgrow7 HB56.out.size HAT6.out; have HK7 := Lib.hid (HX5.out.next hb7).box.c0; have HK7s := Lib.hid (show ∀ u, (w7.setCell ⟨w4.heap.size, 0, none⟩ u).cell? ⟨w.heap.size, 0, none⟩ = some (.slice (some ⟨b, o, none⟩) x.els.length c) from fun u => (World.cell?_setCell_far w7 ⟨w4.heap.size, 0, none⟩ _ _ HNE.out).trans (HX5.out.next hb7).box.c0); have HB57 := Lib.hid hb7; have HO7 := Lib.hid hown7; have HG7 := Lib.hid hG7; have HY7 := Lib.hid (HY5.out.below hb7 (by have := HS5.out; omega)); obtain ⟨y0, y1, y2, y3, y4, y5, yf⟩ := HY7.out; clear hown7 hgrow7 hat7 hb7 hG7)
            | fail)
        obtain ⟨w8, hw8⟩ : ∃ w8, w8 = w7.setCell ⟨w4.heap.size, 0, none⟩ (.slice G7 (i + d') c7) := ⟨_, rfl⟩
        rw [← hw8]
        clear y0 y1 y2 y3 y4 y5 yf
        have hk8 : Only (fun k => k = w4.heap.size) w7 w8 := by rw [hw8]; exact (Only.refl (fun k => k = w4.heap.size) w7).put w4.heap.size 0 rfl _
        have HQ := Lib.hid (show w3.heap.size ≤ g2 ∧ g2 < w4.heap.size ∧ w5.heap.size = w4.heap.size + 1 ∧ w5.heap.size ≤ w7.heap.size ∧ w7.heap.size ≤ w8.heap.size ∧ w.heap.size + 2 ≤ w3.heap.size from ⟨HS5.out.1, HS5.out.2.1, HS5.out.2.2, HB57.out.size, hk8.size, HS3.out⟩)
        have HY8 : Hid (CdMem w8 w4.heap.size (.slice G7 (i + d') c7) (.slice (some ⟨g2, 0, none⟩) x.lims.length c2) (.int .i64 x.rep) (.int .i64 x.bon) (.int .i64 x.kee) (.int .i64 x.fal)) := Lib.hid (by rw [hw8]; exact HY7.out.set0 _)
        have HM8 := Lib.hid ((HM5.out.below HB57.out HMT.out).only hk8 (by have := HQ.out; omega) (by have := HQ.out; omega))
        have HI8 := Lib.hid ((HI5.out.block (HB57.out.block g2 (by have := HQ.out; omega))).block (hk8.block g2 (by have := HQ.out; omega) (by have := HQ.out; omega)))
        have HB8 := Lib.hid ((Below_next HB5.out HB57.out).trans (hk8.below (Below_next HB5.out HB57.out).size (fun k e => by have := HQ.out; omega)))
        have HLEN := Lib.hid (show (x.els.eraseIdx i).length = i + d' by rw [List.length_eraseIdx, if_pos (by have := HD.out; omega)]; have := HD.out; omega)
        have HA8 := Lib.hid (show 0 < i + d' → ∃ g, G7 = some ⟨g, 0, none⟩ ∧ g < w8.heap.size ∧ OwnAt w8 g 0 (x.els.eraseIdx i) ∧ w5.heap.size ≤ g from fun hp => by
          obtain ⟨g, he, h1, h2⟩ := HG7.out hp
          have ho := HO7.out
          rw [he, ← HLEN.out] at ho
          exact ⟨g, he, Nat.lt_of_lt_of_le h2 hk8.size, (own_of_row (α := El) (cap := c7) (e := 72) (base := w5.heap.size) (x.els.eraseIdx i) ho).block (hk8.block g h2 (by have := HQ.out; omega)), h1⟩)
        clear hk8 hw8
        have hat : CdAt w8 G7 (some ⟨g2, 0, none⟩) (drCd x i) := ⟨fun hp => by
          obtain ⟨g, he, h1, h2, _⟩ := HA8.out (by rw [← HLEN.out]; exact hp)
          exact ⟨g, 0, he, h1, h2.cell⟩, fun _ => ⟨g2, 0, rfl, by have := HQ.out; omega, HI8.out.cell⟩⟩
        have hcall := sIf_any G7 (some ⟨g2, 0, none⟩) c7 c2 (drCd x i) w8 hat (drCd_fits HOK.out)
        unfold Cd.val at hcall
        rw [show (drCd x i).els.length = i + d' from HLEN.out] at hcall
        have HCALL := Lib.hid hcall
        clear hcall hat
        obtain ⟨y0, y1, y2, y3, y4, y5, yf⟩ := HY8.out
        go_wp2_with fail
        clear y0 y1 y2 y3 y4 y5 yf
        refine HCALL.out.mono ?_
        rintro e w9 ⟨hy, hn, hb⟩
        have HM9 := Lib.hid (HM8.out.below hb (by have := HQ.out; omega))
        have HI9 := Lib.hid (HI8.out.block (hb.block g2 (by have := HQ.out; omega)))
        have HB9 := Lib.hid (Below_next HB8.out hb)
        have HS9 := Lib.hid hb.size
        have HB89 := Lib.hid hb
        clear hb
        obtain ⟨m0, m1, m2, m3, m4, m5, mf⟩ := HM9.out
        by_cases hR : CdOk (drCd x i)
        · have HRR := Lib.hid (show DrOk x (i : Int) from ⟨⟨HOK.out, by omega⟩, by rw [Int.toNat_natCast]; exact hR⟩)
          obtain ⟨g1, rfl, h1, ho, h2⟩ := HA8.out (by rw [← HLEN.out]; exact hR.els.lo)
          have HO9 := Lib.hid (ho.block (HB89.out.block g1 h1))
          have he := hy hR
          clear hy hn hR ho
          subst he
          go_wp2
          refine stop_body ⟨?_⟩
          intro wz hwz
          have hmz := HM9.out.all (.slice (some ⟨g1, 0, none⟩) (i + d') c7) (.slice (some ⟨g2, 0, none⟩) x.lims.length c2) (.int .i64 x.rep) (.int .i64 x.bon) (.int .i64 x.kee) (.int .i64 x.fal)
          have hkz := only_six w9 (w.heap.size + 1) (.slice (some ⟨g1, 0, none⟩) (i + d') c7) (.slice (some ⟨g2, 0, none⟩) x.lims.length c2) (.int .i64 x.rep) (.int .i64 x.bon) (.int .i64 x.kee) (.int .i64 x.fal)
          rw [show put6 w9 (w.heap.size + 1) (.slice (some ⟨g1, 0, none⟩) (i + d') c7) (.slice (some ⟨g2, 0, none⟩) x.lims.length c2) (.int .i64 x.rep) (.int .i64 x.bon) (.int .i64 x.kee) (.int .i64 x.fal) = wz from hwz.symm] at hmz hkz
          have HKZ := Lib.hid hkz
          clear hwz hkz m0 m1 m2 m3 m4 m5 mf
          obtain ⟨m0, m1, m2, m3, m4, m5, mf⟩ := hmz
          refine bodyPost_ret (v := .tuple #[.agg #[.slice (some ⟨g1, 0, none⟩) (i + d') c7, .slice (some ⟨g2, 0, none⟩) x.lims.length c2, .int .i64 x.rep, .int .i64 x.bon, .int .i64 x.kee, .int .i64 x.fal], .bool true]) (by simp [results, Tryd.results14, go_sem, m0, m1, m2, m3, m4, m5]) rfl ?_
          refine ⟨⟨some ⟨g1, 0, none⟩, c7, some ⟨g2, 0, none⟩, c2, g1, g2, ?_, ?_, by have := HQ.out; omega, ?_, ?_⟩, HB9.out.trans (HKZ.out.below HB9.out.size (fun k hk => by omega))⟩
          · rw [drR_yes HRR.out, pB_yes HRR.out, Int.toNat_natCast]
            show _ = Ending.returned (.tuple #[.agg #[.slice (some ⟨g1, 0, none⟩) (drCd x i).els.length c7, _, _, _, _, _], _])
            rw [show (drCd x i).els.length = i + d' from HLEN.out]
            rfl
          · rw [drR_yes HRR.out, Int.toNat_natCast]
            exact ⟨fun _ => ⟨g1, 0, rfl, rfl, by have := HQ.out; have := HS9.out; have := HKZ.out.size; omega, HO9.out.block (HKZ.out.block g1 (by have := HS9.out; omega) (by have := HQ.out; omega))⟩, fun _ => ⟨g2, 0, rfl, rfl, by have := HQ.out; have := HS9.out; have := HKZ.out.size; omega, HI9.out.block (HKZ.out.block g2 (by have := HQ.out; have := HS9.out; omega) (by have := HQ.out; omega))⟩⟩
          · have := HQ.out; have := HS9.out; have := HKZ.out.size; omega
          · have := HQ.out; have := HS9.out; have := HKZ.out.size; omega
        · have HRR := Lib.hid (fun h : DrOk x (i : Int) => hR (by have := h.2; rwa [Int.toNat_natCast] at this))
          have he := hn hR
          clear hy hn hR
          subst he
          unfold Cd.zero
          go_wp2
          refine stop_body ⟨?_⟩
          intro wz hwz
          have hmz := HM9.out.all (.slice none 0 0) (.slice none 0 0) (.int .i64 0) (.int .i64 0) (.int .i64 0) (.int .i64 0)
          have hkz := only_six w9 (w.heap.size + 1) (.slice none 0 0) (.slice none 0 0) (.int .i64 0) (.int .i64 0) (.int .i64 0) (.int .i64 0)
          rw [show put6 w9 (w.heap.size + 1) (.slice none 0 0) (.slice none 0 0) (.int .i64 0) (.int .i64 0) (.int .i64 0) (.int .i64 0) = wz from hwz.symm] at hmz hkz
          have HKZ := Lib.hid hkz
          clear hwz hkz m0 m1 m2 m3 m4 m5 mf
          obtain ⟨m0, m1, m2, m3, m4, m5, mf⟩ := hmz
          refine bodyPost_ret (v := .tuple #[.agg #[.slice none 0 0, .slice none 0 0, .int .i64 0, .int .i64 0, .int .i64 0, .int .i64 0], .bool false]) (by simp [results, Tryd.results14, go_sem, m0, m1, m2, m3, m4, m5]) rfl ?_
          exact codeAns_no HRR.out (drR_no HRR.out) rfl (by have := HQ.out; have := HS9.out; have := HKZ.out.size; omega) (HB9.out.trans (HKZ.out.below HB9.out.size (fun k hk => by omega)))
    · have HRR := Lib.hid (fun h : DrOk x r => h0 h.1.2)
      obtain ⟨m0, m1, m2, m3, m4, m5, mf⟩ := HM3.out
      go_wp2
      refine stop_body ⟨?_⟩
      intro wz hwz
      have hmz := HM3.out.all (.slice none 0 0) (.slice none 0 0) (.int .i64 0) (.int .i64 0) (.int .i64 0) (.int .i64 0)
      have hkz := only_six w3 (w.heap.size + 1) (.slice none 0 0) (.slice none 0 0) (.int .i64 0) (.int .i64 0) (.int .i64 0) (.int .i64 0)
      rw [show put6 w3 (w.heap.size + 1) (.slice none 0 0) (.slice none 0 0) (.int .i64 0) (.int .i64 0) (.int .i64 0) (.int .i64 0) = wz from hwz.symm] at hmz hkz
      have HKZ := Lib.hid hkz
      clear hwz hkz m0 m1 m2 m3 m4 m5 mf
      obtain ⟨m0, m1, m2, m3, m4, m5, mf⟩ := hmz
      refine bodyPost_ret (v := .tuple #[.agg #[.slice none 0 0, .slice none 0 0, .int .i64 0, .int .i64 0, .int .i64 0, .int .i64 0], .bool false]) (by simp [results, Tryd.results14, go_sem, m0, m1, m2, m3, m4, m5]) rfl ?_
      exact codeAns_no HRR.out (drR_no HRR.out) rfl (by have := HS3.out; have := HKZ.out.size; omega) (HB3.out.trans (HKZ.out.below HB3.out.size (fun k hk => by omega)))
  · rw [pB_no hok] at he
    subst he
    have HRR := Lib.hid (fun h : DrOk x r => hok h.1.1)
    clear hok
    obtain ⟨m0, m1, m2, m3, m4, m5, mf⟩ := HM3.out
    go_wp2
    refine stop_body ⟨?_⟩
    intro wz hwz
    have hmz := HM3.out.all (.slice none 0 0) (.slice none 0 0) (.int .i64 0) (.int .i64 0) (.int .i64 0) (.int .i64 0)
    have hkz := only_six w3 (w.heap.size + 1) (.slice none 0 0) (.slice none 0 0) (.int .i64 0) (.int .i64 0) (.int .i64 0) (.int .i64 0)
    rw [show put6 w3 (w.heap.size + 1) (.slice none 0 0) (.slice none 0 0) (.int .i64 0) (.int .i64 0) (.int .i64 0) (.int .i64 0) = wz from hwz.symm] at hmz hkz
    have HKZ := Lib.hid hkz
    clear hwz hkz m0 m1 m2 m3 m4 m5 mf
    obtain ⟨m0, m1, m2, m3, m4, m5, mf⟩ := hmz
    refine bodyPost_ret (v := .tuple #[.agg #[.slice none 0 0, .slice none 0 0, .int .i64 0, .int .i64 0, .int .i64 0, .int .i64 0], .bool false]) (by simp [results, Tryd.results14, go_sem, m0, m1, m2, m3, m4, m5]) rfl ?_
    exact codeAns_no HRR.out (drR_no HRR.out) rfl (by have := HS3.out; have := HKZ.out.size; omega) (HB3.out.trans (HKZ.out.below HB3.out.size (fun k hk => by omega)))
end Go.Proofs.YtnmnenbmiealbaaDoor
