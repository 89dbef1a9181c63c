/- Codes that a call answers with: their memory, the last look at them. -/
import Derived.Test.YtnmnenbmiealbaaDoorCdM
namespace Go.Proofs.YtnmnenbmiealbaaDoor
open Go.ChangeShapes Go.WideShapes Go.ChangeAt Go.RowKit Go.PlainAid Go.Sort
set_option linter.unusedVariables false

theorem stop_body {P : Program} {f : Func} {R : Ending → World → Prop} {x : Exit} {a : Act} {w : World} (h : Stop (∀ w', w' = w → bodyPost P f R x a w')) : bodyPost P f R x a w := h.of w rfl
/-- Six cells stored, one behind the other. -/
def put6 (w : World) (b : Nat) (u0 u1 u2 u3 u4 u5 : Value) : World := (((((w.setCell ⟨b, 0, none⟩ u0).setCell ⟨b, 1, none⟩ u1).setCell ⟨b, 2, none⟩ u2).setCell ⟨b, 3, none⟩ u3).setCell ⟨b, 4, none⟩ u4).setCell ⟨b, 5, none⟩ u5
theorem CdMem.all {w : World} {b : Nat} {v0 v1 v2 v3 v4 v5 : Value} (h : CdMem w b v0 v1 v2 v3 v4 v5) (u0 u1 u2 u3 u4 u5 : Value) : CdMem (put6 w b u0 u1 u2 u3 u4 u5) b u0 u1 u2 u3 u4 u5 := (((((h.set0 u0).set1 u1).set2 u2).set3 u3).set4 u4).set5 u5
theorem only_six (w : World) (b : Nat) (u0 u1 u2 u3 u4 u5 : Value) : Only (fun i => i = b) w (put6 w b u0 u1 u2 u3 u4 u5) :=
  ((((((Only.refl (fun i => i = b) w).put b 0 rfl u0).put b 1 rfl u1).put b 2 rfl u2).put b 3 rfl u3).put b 4 rfl u4).put b 5 rfl u5
theorem below_six {w0 w : World} (h : Below w0.heap.size w0 w) (b : Nat) (hb : w0.heap.size ≤ b) (u0 u1 u2 u3 u4 u5 : Value) : Below w0.heap.size w0 (put6 w b u0 u1 u2 u3 u4 u5) :=
  h.trans ((only_six w b u0 u1 u2 u3 u4 u5).below h.size (fun k hk => by rw [hk]; exact hb))

def Cd.zero : Cd := ⟨[], [], 0, 0, 0, 0⟩
set_option maxHeartbeats 1000000 in
theorem iIfValid_any (A L : Option Addr) (c d : Nat) (x : Cd) (w : World) (hr : CdAt w A L x) (hl : CdFits x) (ht : Tab w) :
    Calls Tryd.prog 49 #[x.val A c L d] w fun e w' => (CdOk x → e = .returned (.tuple #[x.val A c L d, .bool true])) ∧ (¬ CdOk x → e = .returned (.tuple #[Cd.zero.val none 0 none 0, .bool false])) ∧ Below w.heap.size w w' := by
  have HL := Lib.hid hl
  have HR := Lib.hid hr
  have HT := Lib.hid ht
  clear hr hl ht
  unfold Cd.val
  go_enter Tryd.func49, Tryd.ntmps49
  go_wp2_with fail
  generalize hW : World.alloc (World.alloc w _) _ = W
  have hB : Below w.heap.size w W := by
    rw [← hW]
    go_grown
  have hS : W.heap.size = w.heap.size + 2 := by rw [← hW]; simp
  have hX : CdBox W w.heap.size A c L d x := by
    rw [← hW]
    exact (cdBox_new w _ _ rfl A c L d x).below ((Below.refl _ _).alloc (Nat.le_refl _) _) (by simp)
  have hM : CdMem W (w.heap.size + 1) (.slice none 0 0) (.slice none 0 0) (.int .i64 0) (.int .i64 0) (.int .i64 0) (.int .i64 0) := by
    rw [← hW]
    exact cdMem_new _ _ _ (by simp) _ _ _ _ _ _
  clear hW
  refine (iIsCode_any A L c d x W (HR.out.below hB) HL.out (HT.out.next hB)).mono ?_
  rintro e w2 ⟨he, hb⟩
  have HM2 := Lib.hid (hM.below hb (by omega))
  have HX2 := Lib.hid (hX.below hb (by omega))
  have HB2 := Lib.hid (Below_next hB hb)
  have HS2 := Lib.hid (show w.heap.size + 2 ≤ w2.heap.size by rw [← hS]; exact hb.size)
  clear hB hb hX hM hS
  by_cases hok : CdOk x
  · rw [pB_yes hok] at he
    subst he
    have HOK := Lib.hid hok
    clear hok
    obtain ⟨m0, m1, m2, m3, m4, m5, mf⟩ := HM2.out
    obtain ⟨x0, x1, x2, x3, x4, x5⟩ := HX2.out
    go_wp2
    refine stop_body ⟨?_⟩
    intro w8 hw8
    have hm8 := HM2.out.all (.slice A x.els.length c) (.slice L x.lims.length d) (.int .i64 x.rep) (.int .i64 x.bon) (.int .i64 x.kee) (.int .i64 x.fal)
    have hb8 := below_six HB2.out (w.heap.size + 1) (by omega) (.slice A x.els.length c) (.slice L x.lims.length d) (.int .i64 x.rep) (.int .i64 x.bon) (.int .i64 x.kee) (.int .i64 x.fal)
    rw [show put6 w2 (w.heap.size + 1) (.slice A x.els.length c) (.slice L x.lims.length d) (.int .i64 x.rep) (.int .i64 x.bon) (.int .i64 x.kee) (.int .i64 x.fal) = w8 from hw8.symm] at hm8 hb8
    have HB8 := Lib.hid hb8
    clear hw8 hb8 m0 m1 m2 m3 m4 m5 mf x0 x1 x2 x3 x4 x5
    obtain ⟨m0, m1, m2, m3, m4, m5, mf⟩ := hm8
    refine bodyPost_ret (v := .tuple #[.agg #[.slice A x.els.length c, .slice L x.lims.length d, .int .i64 x.rep, .int .i64 x.bon, .int .i64 x.kee, .int .i64 x.fal], .bool true]) (by simp [results, Tryd.results49, go_sem, m0, m1, m2, m3, m4, m5]) rfl ?_
    exact ⟨fun _ => rfl, fun h => absurd HOK.out h, HB8.out⟩
  · rw [pB_no hok] at he
    subst he
    have HOK := Lib.hid hok
    clear hok
    obtain ⟨m0, m1, m2, m3, m4, m5, mf⟩ := HM2.out
    go_wp2
    refine stop_body ⟨?_⟩
    intro w8 hw8
    have hm8 := HM2.out.all (.slice none 0 0) (.slice none 0 0) (.int .i64 0) (.int .i64 0) (.int .i64 0) (.int .i64 0)
    have hb8 := below_six HB2.out (w.heap.size + 1) (by omega) (.slice none 0 0) (.slice none 0 0) (.int .i64 0) (.int .i64 0) (.int .i64 0) (.int .i64 0)
    rw [show put6 w2 (w.heap.size + 1) (.slice none 0 0) (.slice none 0 0) (.int .i64 0) (.int .i64 0) (.int .i64 0) (.int .i64 0) = w8 from hw8.symm] at hm8 hb8
    have HB8 := Lib.hid hb8
    clear hw8 hb8 m0 m1 m2 m3 m4 m5 mf
    obtain ⟨m0, m1, m2, m3, m4, m5, mf⟩ := hm8
    refine bodyPost_ret (v := .tuple #[.agg #[.slice none 0 0, .slice none 0 0, .int .i64 0, .int .i64 0, .int .i64 0, .int .i64 0], .bool false]) (by simp [results, Tryd.results49, go_sem, m0, m1, m2, m3, m4, m5]) rfl ?_
    exact ⟨fun h => absurd h HOK.out, fun _ => rfl, HB8.out⟩

set_option maxHeartbeats 1000000 in
theorem sIf_any (A L : Option Addr) (c d : Nat) (x : Cd) (w : World) (hr : CdAt w A L x) (hl : CdFits x) :
    Calls Tryd.prog 46 #[x.val A c L d] w fun e w' => (CdOk x → e = .returned (.tuple #[x.val A c L d, .bool true])) ∧ (¬ CdOk x → e = .returned (.tuple #[Cd.zero.val none 0 none 0, .bool false])) ∧ Below w.heap.size w w' := by
  have HL := Lib.hid hl
  have HR := Lib.hid hr
  clear hr hl
  unfold Cd.val
  go_enter Tryd.func46, Tryd.ntmps46
  go_wp2_with fail
  generalize hW : World.alloc (World.alloc w _) _ = W
  have hB : Below w.heap.size w W := by
    rw [← hW]
    go_grown
  have hS : W.heap.size = w.heap.size + 2 := by rw [← hW]; simp
  have hX : CdBox W w.heap.size A c L d x := by
    rw [← hW]
    exact (cdBox_new w _ _ rfl A c L d x).below ((Below.refl _ _).alloc (Nat.le_refl _) _) (by simp)
  have hM : CdMem W (w.heap.size + 1) (.slice none 0 0) (.slice none 0 0) (.int .i64 0) (.int .i64 0) (.int .i64 0) (.int .i64 0) := by
    rw [← hW]
    exact cdMem_new _ _ _ (by simp) _ _ _ _ _ _
  clear hW
  refine (cdGood_any A L c d x W (HR.out.below hB) HL.out).mono ?_
  rintro e w2 ⟨he, hb⟩
  have HM2 := Lib.hid (hM.below hb (by omega))
  have HX2 := Lib.hid (hX.below hb (by omega))
  have HB2 := Lib.hid (Below_next hB hb)
  have HS2 := Lib.hid (show w.heap.size + 2 ≤ w2.heap.size by rw [← hS]; exact hb.size)
  clear hB hb hX hM hS
  by_cases hok : CdOk x
  · rw [pB_yes hok] at he
    subst he
    have HOK := Lib.hid hok
    clear hok
    obtain ⟨m0, m1, m2, m3, m4, m5, mf⟩ := HM2.out
    obtain ⟨x0, x1, x2, x3, x4, x5⟩ := HX2.out
    go_wp2
    refine stop_body ⟨?_⟩
    intro w8 hw8
    have hm8 := HM2.out.all (.slice A x.els.length c) (.slice L x.lims.length d) (.int .i64 x.rep) (.int .i64 x.bon) (.int .i64 x.kee) (.int .i64 x.fal)
    have hb8 := below_six HB2.out (w.heap.size + 1) (by omega) (.slice A x.els.length c) (.slice L x.lims.length d) (.int .i64 x.rep) (.int .i64 x.bon) (.int .i64 x.kee) (.int .i64 x.fal)
    rw [show put6 w2 (w.heap.size + 1) (.slice A x.els.length c) (.slice L x.lims.length d) (.int .i64 x.rep) (.int .i64 x.bon) (.int .i64 x.kee) (.int .i64 x.fal) = w8 from hw8.symm] at hm8 hb8
    have HB8 := Lib.hid hb8
    clear hw8 hb8 m0 m1 m2 m3 m4 m5 mf x0 x1 x2 x3 x4 x5
    obtain ⟨m0, m1, m2, m3, m4, m5, mf⟩ := hm8
    refine bodyPost_ret (v := .tuple #[.agg #[.slice A x.els.length c, .slice L x.lims.length d, .int .i64 x.rep, .int .i64 x.bon, .int .i64 x.kee, .int .i64 x.fal], .bool true]) (by simp [results, Tryd.results46, go_sem, m0, m1, m2, m3, m4, m5]) rfl ?_
    exact ⟨fun _ => rfl, fun h => absurd HOK.out h, HB8.out⟩
  · rw [pB_no hok] at he
    subst he
    have HOK := Lib.hid hok
    clear hok
    obtain ⟨m0, m1, m2, m3, m4, m5, mf⟩ := HM2.out
    go_wp2
    refine stop_body ⟨?_⟩
    intro w8 hw8
    have hm8 := HM2.out.all (.slice none 0 0) (.slice none 0 0) (.int .i64 0) (.int .i64 0) (.int .i64 0) (.int .i64 0)
    have hb8 := below_six HB2.out (w.heap.size + 1) (by omega) (.slice none 0 0) (.slice none 0 0) (.int .i64 0) (.int .i64 0) (.int .i64 0) (.int .i64 0)
    rw [show put6 w2 (w.heap.size + 1) (.slice none 0 0) (.slice none 0 0) (.int .i64 0) (.int .i64 0) (.int .i64 0) (.int .i64 0) = w8 from hw8.symm] at hm8 hb8
    have HB8 := Lib.hid hb8
    clear hw8 hb8 m0 m1 m2 m3 m4 m5 mf
    obtain ⟨m0, m1, m2, m3, m4, m5, mf⟩ := hm8
    refine bodyPost_ret (v := .tuple #[.agg #[.slice none 0 0, .slice none 0 0, .int .i64 0, .int .i64 0, .int .i64 0, .int .i64 0], .bool false]) (by simp [results, Tryd.results46, go_sem, m0, m1, m2, m3, m4, m5]) rfl ?_
    exact ⟨fun h => absurd h HOK.out, fun _ => rfl, HB8.out⟩
end Go.Proofs.YtnmnenbmiealbaaDoor
