/- Changes in the program: what one asks of its list. -/
import Derived.Test.YthbkfekbpjkhnaaHiP
namespace Go.Proofs.Ythbkfekbpjkhnaa
open Go.ChangeShapes Go.WideShapes Go.ChangeAt Go.RowKit Go.Lib Go.Proofs
set_option linter.unusedVariables false

/-- A change in a box of its own. -/
structure CgBx (w : World) (b : Nat) (x : Cg) : Prop where
  c0 : w.cell? ⟨b, 0, none⟩ = some (.int .i64 x.tick)
  c1 : w.cell? ⟨b, 1, none⟩ = some (.int .i64 x.caller)
  c2 : w.cell? ⟨b, 2, none⟩ = some (.int .i64 x.item)
  c3 : w.cell? ⟨b, 3, none⟩ = some (.int .i64 x.name)
  c4 : w.cell? ⟨b, 4, none⟩ = some (.int .i64 x.mark)
  c5 : w.cell? ⟨b, 5, none⟩ = some (.bool x.review)
@[reducible] def Cg.obj (x : Cg) (t : TypeId) : Obj := .cells #[.int .i64 x.tick, .int .i64 x.caller, .int .i64 x.item, .int .i64 x.name, .int .i64 x.mark, .bool x.review] t
theorem cgBx_new (w : World) (x : Cg) (t : TypeId) : CgBx (w.alloc (x.obj t)) w.heap.size x := by
  constructor <;> simp [Cg.obj]
theorem CgBx.below {w w' : World} {b B : Nat} {x : Cg} (h : CgBx w b x) (hb : Below B w w') (hB : b < B) : CgBx w' b x :=
  ⟨(hb.cell (p := ⟨b, 0, none⟩) hB).trans h.c0, (hb.cell (p := ⟨b, 1, none⟩) hB).trans h.c1, (hb.cell (p := ⟨b, 2, none⟩) hB).trans h.c2, (hb.cell (p := ⟨b, 3, none⟩) hB).trans h.c3, (hb.cell (p := ⟨b, 4, none⟩) hB).trans h.c4, (hb.cell (p := ⟨b, 5, none⟩) hB).trans h.c5⟩
theorem CgBx.keep {w w' : World} {b : Nat} {x : Cg} (h : CgBx w b x) (hb : w'.heap[b]? = w.heap[b]?) : CgBx w' b x :=
  ⟨(World.cell?_of_block (a := ⟨b, 0, none⟩) hb).trans h.c0, (World.cell?_of_block (a := ⟨b, 1, none⟩) hb).trans h.c1, (World.cell?_of_block (a := ⟨b, 2, none⟩) hb).trans h.c2, (World.cell?_of_block (a := ⟨b, 3, none⟩) hb).trans h.c3, (World.cell?_of_block (a := ⟨b, 4, none⟩) hb).trans h.c4, (World.cell?_of_block (a := ⟨b, 5, none⟩) hb).trans h.c5⟩
/-- A tick. -/
def Tk1 (t : Int) : Prop := 0 ≤ t ∧ t ≤ 100000
theorem isTick_any (t : Int) (w : World) :
    Calls Try.prog 55 #[.int .i64 t] w fun e w' => e = .returned (.bool (pB (Tk1 t))) ∧ w' = w := by
  by_cases h0 : 0 ≤ t
  rotate_left
  · have HV := Lib.hid (pB_no (fun hh : Tk1 t => h0 hh.1))
    have h0' : t < 0 := by omega
    clear h0
    go_enter Try.func55, Try.ntmps55
    go_wp2
    go_ret
    exact ⟨by rw [HV.out]; rfl, rfl⟩
  by_cases h1 : t ≤ 100000
  · have HV := Lib.hid (pB_yes (show Tk1 t from ⟨h0, h1⟩))
    go_enter Try.func55, Try.ntmps55
    go_wp2
    go_ret
    exact ⟨by rw [HV.out]; first | rfl | (simp; done) | (simp; omega), rfl⟩
  · have HV := Lib.hid (pB_no (fun hh : Tk1 t => h1 hh.2))
    have h1' : 100000 < t := by omega
    clear h1
    go_enter Try.func55, Try.ntmps55
    go_wp2
    go_ret
    exact ⟨by rw [HV.out]; first | rfl | (simp; done) | (simp; omega), rfl⟩
set_option maxHeartbeats 1000000 in
theorem hasNameAt_any (P : Option Addr) (c : Nat) (xs : List Im) (i n : Int) (w : World) (hr : Ims w w.heap.size P xs) (hl : ImsFits xs) :
    Calls Try.prog 66 #[.slice P xs.length c, .int .i64 i, .int .i64 n] w fun e w' => e = .returned (.bool (pB (NmAt xs i n))) ∧ w' = w := by
  have HR := Lib.hid hr
  have HF := Lib.hid hl
  have hl' := hl.len
  clear hr hl
  by_cases h0 : 0 ≤ i
  rotate_left
  · have HV := Lib.hid (pB_no (fun hh : NmAt xs i n => h0 hh.i0))
    have h0' : i < 0 := by omega
    clear h0
    go_enter Try.func66, Try.ntmps66
    go_wp2
    go_ret
    exact ⟨by rw [HV.out]; rfl, rfl⟩
  obtain ⟨k, rfl⟩ : ∃ k : Nat, i = (k : Int) := ⟨i.toNat, by omega⟩
  by_cases h1 : k < xs.length
  rotate_left
  · have HV := Lib.hid (pB_no (fun hh : NmAt xs k n => h1 (by have := hh.i1; omega)))
    have h1' : (xs.length : Int) ≤ (k : Int) := by omega
    clear h1
    go_enter Try.func66, Try.ntmps66
    go_wp2
    go_ret
    exact ⟨by rw [HV.out]; rfl, rfl⟩
  have h1' : (k : Int) < (xs.length : Int) := by omega
  by_cases h2 : 0 ≤ n
  rotate_left
  · have HV := Lib.hid (pB_no (fun hh : NmAt xs k n => h2 hh.n0))
    have h2' : n < 0 := by omega
    clear h2
    go_enter Try.func66, Try.ntmps66
    go_wp2
    go_ret
    exact ⟨by rw [HV.out]; rfl, rfl⟩
  obtain ⟨b, o, rfl, hbl, hc⟩ := HR.out.out.im (by omega)
  obtain ⟨c0, c1, c2⟩ := hc k h1
  have hns := (HF.out.each k h1).ns.1
  clear hc c1 c2
  by_cases h3 : n < ((it xs k).ns.length : Int)
  · have HV := Lib.hid (pB_yes (⟨h0, h1', h2, h3⟩ : NmAt xs k n))
    go_enter Try.func66, Try.ntmps66
    go_wp2
    go_ret
    exact ⟨by rw [HV.out]; first | rfl | (simp; omega), rfl⟩
  · have HV := Lib.hid (pB_no (fun hh : NmAt xs k n => h3 hh.n1))
    have h3' : ((it xs k).ns.length : Int) ≤ n := by omega
    clear h3
    go_enter Try.func66, Try.ntmps66
    go_wp2
    go_ret
    exact ⟨by rw [HV.out]; first | rfl | (simp; omega), rfl⟩
theorem isMark_any (v : Int) (w : World) :
    Calls Try.prog 92 #[.int .i64 v] w fun e w' => e = .returned (.bool (pB (MkOk v))) ∧ w' = w := by
  by_cases h : MkOk v
  · rw [pB_yes h]
    exact (isMark_yes v w h).mono fun _ _ k => ⟨k.1, k.2.symm⟩
  · rw [pB_no h]
    exact (isMark_no v w h).mono fun _ _ k => ⟨k.1, k.2.symm⟩
/-- What a change asks of its list. -/
structure IcOk (xs : List Im) (x : Cg) : Prop where
  tk : Tk1 x.tick
  c1 : 1 ≤ x.caller
  c2 : x.caller ≤ 9
  nm : NmAt xs x.item x.name
  mr : MkOk x.mark
set_option maxHeartbeats 2000000 in
theorem isChange_any (P : Option Addr) (c : Nat) (xs : List Im) (x : Cg) (w : World) (hr : Ims w w.heap.size P xs) (hl : ImsFits xs) :
    Calls Try.prog 75 #[.slice P xs.length c, x.val] w fun e w' => e = .returned (.bool (pB (IcOk xs x))) ∧ Below w.heap.size w w' := by
  have hb0 := below_alloc w (x.obj 50)
  have HX := Lib.hid (cgBx_new w x 50)
  have HR := Lib.hid (hr.next hb0)
  have HB := Lib.hid hb0
  have HF := Lib.hid hl
  have HT := Lib.hid (isTick_any x.tick)
  have HN := Lib.hid (fun W => hasNameAt_any P c xs x.item x.name W)
  have HM := Lib.hid (isMark_any x.mark)
  clear hr hl hb0
  unfold Cg.obj at HB HX HR
  unfold Cg.val
  by_cases h0 : Tk1 x.tick
  rotate_left
  · rw [pB_no (fun hh : IcOk xs x => h0 hh.tk)]
    rw [pB_no h0] at HT
    clear h0
    go_enter Try.func75, Try.ntmps75
    go_wp2_with fail
    generalize World.alloc w _ = W at HB HX HR ⊢
    obtain ⟨x0, x1, x2, x3, x4, x5⟩ := HX.out
    go_wp2_with (go_at_call 55; refine (HT.out _).mono ?_; rintro e w2 ⟨rfl, rfl⟩)
    go_ret
    exact ⟨rfl, HB.out⟩
  rw [pB_yes h0] at HT
  by_cases h1 : 1 ≤ x.caller
  rotate_left
  · rw [pB_no (fun hh : IcOk xs x => h1 hh.c1)]
    have h1' : x.caller < 1 := by omega
    clear h0 h1
    go_enter Try.func75, Try.ntmps75
    go_wp2_with fail
    generalize World.alloc w _ = W at HB HX HR ⊢
    obtain ⟨x0, x1, x2, x3, x4, x5⟩ := HX.out
    go_wp2_with (go_at_call 55; refine (HT.out _).mono ?_; rintro e w2 ⟨rfl, rfl⟩)
    go_ret
    exact ⟨rfl, HB.out⟩
  by_cases h2 : x.caller ≤ 9
  rotate_left
  · rw [pB_no (fun hh : IcOk xs x => h2 hh.c2)]
    have h2' : 9 < x.caller := by omega
    clear h0 h2
    go_enter Try.func75, Try.ntmps75
    go_wp2_with fail
    generalize World.alloc w _ = W at HB HX HR ⊢
    obtain ⟨x0, x1, x2, x3, x4, x5⟩ := HX.out
    go_wp2_with (go_at_call 55; refine (HT.out _).mono ?_; rintro e w2 ⟨rfl, rfl⟩)
    go_ret
    exact ⟨rfl, HB.out⟩
  by_cases h3 : NmAt xs x.item x.name
  rotate_left
  · rw [pB_no (fun hh : IcOk xs x => h3 hh.nm)]
    rw [pB_no h3] at HN
    clear h0 h3
    go_enter Try.func75, Try.ntmps75
    go_wp2_with fail
    generalize World.alloc w _ = W at HB HX HR ⊢
    obtain ⟨x0, x1, x2, x3, x4, x5⟩ := HX.out
    go_wp2_with (first
      | (go_at_call 55; refine (HT.out _).mono ?_; rintro e w2 ⟨rfl, rfl⟩)
      | (go_at_call 66; refine (HN.out _ HR.out HF.out).mono ?_; rintro e w2 ⟨rfl, rfl⟩))
    go_ret
    exact ⟨rfl, HB.out⟩
  rw [pB_yes h3] at HN
  have HV := Lib.hid (show pB (IcOk xs x) = pB (MkOk x.mark) from pB_iff ⟨fun h => h.mr, fun h => ⟨h0, h1, h2, h3, h⟩⟩)
  rw [HV.out]
  clear h0 h3
  generalize pB (MkOk x.mark) = bm at HM ⊢
  cases bm
  all_goals
    go_enter Try.func75, Try.ntmps75
    go_wp2_with fail
    generalize World.alloc w _ = W at HB HX HR ⊢
    obtain ⟨x0, x1, x2, x3, x4, x5⟩ := HX.out
    go_wp2_with (first
      | (go_at_call 55; refine (HT.out _).mono ?_; rintro e w2 ⟨rfl, rfl⟩)
      | (go_at_call 66; refine (HN.out _ HR.out HF.out).mono ?_; rintro e w2 ⟨rfl, rfl⟩)
      | (go_at_call 92; refine (HM.out _).mono ?_; rintro e w2 ⟨rfl, rfl⟩))
    go_ret
    exact ⟨rfl, HB.out⟩
end Go.Proofs.Ythbkfekbpjkhnaa
