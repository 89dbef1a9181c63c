/- ReplaceGain in the program. -/
import Derived.Test.YtjmdaecjgiafoaaGreatDoorPnK
import Derived.Test.YtjmdaecjgiafoaaGreatDoorPgI
import Derived.Test.YtjmdaecjgiafoaaGreatDoorBm
import Derived.Test.YtjmdaecjgiafoaaGreatDoorPgIf
import Derived.Deep.RegionHeld3
import Derived.Lib.SliceRun
namespace Go.Proofs.YtjmdaecjgiafoaaGreatDoor
open Go.ChangeShapes Go.WideShapes Go.ChangeAt Go.RowKit Go.PlainAid
set_option linter.unusedVariables false

theorem pbI_bound {x : Cd} {xs : List Im} (h : BsOk x xs) : -60 ≤ pbI x xs ∧ pbI x xs ≤ 101000 := by
  have h1 := sumB_le h xs.length (Nat.le_refl _)
  have h2 := h.list.len
  unfold pbI
  omega

set_option maxRecDepth 20000 in
theorem cloneIms_any (P : Option Addr) (c : Nat) (xs : List Im) (w : World) (hr : Ims w w.heap.size P xs) (hp : 0 < xs.length) (h14 : xs.length ≤ 100) :
    Calls Tryz.prog 90 #[.slice P xs.length c] w fun e w' => ∃ g d, e = .returned (.slice (some ⟨g, 0, none⟩) xs.length d) ∧ (xs.length ≤ d ∧ d ≤ 9223372036854775807) ∧ Over w' g 0 xs ∧ w.heap.size ≤ g ∧ Below w.heap.size w w' := by
  obtain ⟨i0, hi, hz0, hz1, hz2⟩ := info_parts Tryz.infoIm
  have HZ := Lib.hid (And.intro hi (And.intro hz0 (And.intro hz1 hz2)))
  obtain ⟨b, o, rfl, hbl, hc0⟩ := hr.out.im hp
  have HR := Lib.hid hr
  have HSRC := Lib.hid (show ∀ W, Below w.heap.size w W → ∀ j u, (xs.flatMap Flat.cells)[j]? = some u → W.cell? ((⟨b, o, none⟩ : Addr).add j) = some u from fun W hb j u hj => head_src hr.out hb xs.length (Nat.le_refl _) hp j u (by rw [List.take_length]; exact hj))
  have q27 : ∀ (w : World) (a : Option Addr) (n c n' c' : Nat), (binOp .eql 27 (.slice a n c) (.slice none n' c')).run Tryz.prog w = .ok (.bool a.isNone) w := fun w a n c n' c' => Lib.run_eql_slice_nil w _ _ a n c n' c' Tryz.underlying27
  clear hr hi hz0 hz1 hz2 hc0
  go_enter Tryz.func90, Tryz.ntmps90
  go_wp2_with (at_builtin; refine wpList_append_srcN _ rfl (.tmp 5) (.tmp 6) 27 rfl w.heap.size 62 i0 (.agg #[.slice none 0 0, .slice none 0 0, .bool false]) 3 56 (by decide) Tryz.underlying27 HZ.out.1 HZ.out.2.1 HZ.out.2.2.1 HZ.out.2.2.2 rfl (.slice (some ⟨w.heap.size, 0, none⟩) 0 0) 0 [] rfl (owns_emptyN _ _ _ _ _ (Nat.le_refl _) (heap_at_new _ _ _ rfl)) (some ⟨b, o, none⟩) xs.length c (xs.flatMap Flat.cells) rfl (flat_len xs) (fun _ => ⟨_, rfl, HSRC.out _ (below_alloc _ _)⟩) (im_one xs) (by unfold maxLen; omega) (by omega) (by simp) ?_; intro v1 w1 hown1 hgrow1 hat1; have HOWN1 := Lib.hid hown1; have HG1 := Lib.hid hgrow1; clear hown1 hgrow1 hat1)
  go_ret
  have ho : w1.ownsRow w.heap.size 62 3 v1 xs.length (xs.flatMap Flat.cells) := by
    have := HOWN1.out
    rwa [Nat.zero_add, List.nil_append] at this
  obtain ⟨R, d, g, rfl, h1, h2⟩ := own_form xs ho
  obtain ⟨h3, h4, _⟩ := h2 hp
  obtain ⟨g', o', e1, e2, h5, h6⟩ := h1 hp
  have e2' : g' = g := e2
  subst e2'
  have hrm := own_room ho
  have hb1 : Below w.heap.size w w1 := Below.grown (below_alloc _ _) HG1.out (by simp) (fun kk e => by simp [Value.ownBlock] at e; omega)
  have ho0 : o' = 0 := by
    rcases ho.2 with ⟨hv, _⟩ | ⟨g2, cap, cur, hv, _⟩
    · injection hv with hv
      rw [e1] at hv
      cases hv
    · injection hv with hv
      rw [e1] at hv
      injection hv with hv
      injection hv with q1 q2
  subst ho0
  refine ⟨g', d, by rw [e1] <;> rfl, hrm, ⟨h6, h4, fun w' hk i hi => ?_⟩, h3, hb1⟩
  have hkk : Below w.heap.size w w' := hb1.trans (hk.below (by have := hb1.size; omega) (fun k e => by omega))
  exact (HR.out.each i hi).next hkk
end Go.Proofs.YtjmdaecjgiafoaaGreatDoor
