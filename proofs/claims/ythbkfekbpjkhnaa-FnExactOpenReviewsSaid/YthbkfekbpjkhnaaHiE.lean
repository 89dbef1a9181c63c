/- The record of a change behind others, in the program. -/
import Derived.Test.YthbkfekbpjkhnaaHiD
namespace Go.Proofs.Ythbkfekbpjkhnaa
open Go.ChangeShapes Go.WideShapes Go.ChangeAt Go.RowKit Go.Lib Go.Proofs
set_option linter.unusedVariables false

/-- The record of a change behind others. -/
def rcB (xs : List Im) (gs : List Cg) (x : Cg) : Rc := ⟨x, mkS xs gs x.item x.name gs.length, opS gs x.item x.name gs.length⟩
structure RcOwn (w : World) (b : Nat) : Prop where
  own : OwnAt w b 0 [(default : Rc)]
  lt : b < w.heap.size
theorem RcOwn.cells {w : World} {b : Nat} (h : RcOwn w b) : RcBx w b default := rcBx_at h.own
theorem RcOwn.free {w : World} {b : Nat} (h : RcOwn w b) (k : Nat) (hk : k < 8) : w.frozen? ⟨b, k, none⟩ = false := by
  have h1 := h.own.free 0 k (by simp) hk
  rwa [Nat.zero_mul, Nat.add_zero, Nat.zero_add] at h1
theorem RcOwn.put {w : World} {b : Nat} (h : RcOwn w b) (r : Rc) : RcBx (putAt b 0 w 0 (Flat.cells r)) b r := by
  have h1 := h.own.put 0 r (by simp)
  rw [Nat.zero_mul, Nat.add_zero] at h1
  exact rcBx_at h1
theorem RcOwn.below {w w' : World} {b : Nat} (h : RcOwn w b) (hb : Below w.heap.size w w') : RcOwn w' b := ⟨h.own.block (hb.block _ h.lt), Nat.lt_of_lt_of_le h.lt hb.size⟩
set_option maxHeartbeats 4000000 in
set_option maxRecDepth 100000 in
theorem recordBehind_any (P : Option Addr) (c : Nat) (xs : List Im) (A : Option Addr) (ch : Nat) (gs : List Cg) (x : Cg) (w : World) (hr : Ims w w.heap.size P xs) (hl : ImsFits xs) (hok : ListOk xs) (hn : NmAt xs x.item x.name) (hg : Lst w w.heap.size A gs) (hgl : gs.length ≤ 60) :
    Calls Try.prog 76 #[.slice P xs.length c, .slice A gs.length ch, x.val] w fun e w' => e = .returned ((rcB xs gs x).val) ∧ Below w.heap.size w w' := by
  obtain ⟨i, hi⟩ : ∃ i : Nat, x.item = (i : Int) := ⟨x.item.toNat, by have := hn.i0; omega⟩
  obtain ⟨n, hm⟩ : ∃ n : Nat, x.name = (n : Int) := ⟨x.name.toNat, by have := hn.n0; omega⟩
  have hi1 : i < xs.length := by have := hn.i1; omega
  have hn1 : n < (it xs i).ns.length := by
    have := hn.n1
    rw [hi] at this
    simp only [Int.toNat_natCast] at this
    omega
  have heq := (hok.each i hi1).eq
  have hlen := hok.len
  have h3 := (hok.each i hi1).hi
  have HR := Lib.hid hr
  have HG := Lib.hid hg
  have HI := Lib.hid (And.intro hi hm)
  have HV := Lib.hid (show rcB xs gs x = ⟨x, mkS xs gs (i : Int) (n : Int) gs.length, opS gs (i : Int) (n : Int) gs.length⟩ by unfold rcB; rw [hi, hm])
  rw [HV.out]
  clear hr hl hok hn hg HV
  rcases hk : laK gs (i : Int) (n : Int) gs.length with _ | p
  · have HLA := Lib.hid (fun W (h : Lst W W.heap.size A gs) => lastOfName_any A ch gs (i : Int) (n : Int) W h (by omega))
    rw [hk] at HLA
    unfold laA at HLA
    rw [mkS_none hk, opS_none hk]
    simp only [Int.toNat_natCast]
    clear hk
    unfold Cg.val
    rw [hi, hm]
    go_enter Try.func76, Try.ntmps76
    go_wp2_with fail
    generalize hW : World.alloc (World.alloc w _) _ = W
    have hB : Below w.heap.size w W := by
      rw [← hW]
      go_grown
    have hX : CgBx W w.heap.size x := by
      rw [← hW, ← hi, ← hm]
      exact (cgBx_new w x 50).below (below_alloc _ _) (by simp)
    have hO : RcOwn W (w.heap.size + 1) := by
      rw [← hW]
      exact ⟨by
        have h1 := rcBx_new (w.alloc (x.obj 50)) default 98
        rw [← hi, ← hm]
        rw [show (w.alloc (x.obj 50)).heap.size = w.heap.size + 1 by simp] at h1
        exact h1, by simp⟩
    have hSW : W.heap.size = w.heap.size + 2 := by rw [← hW]; simp
    clear hW
    have HB := Lib.hid hB
    have HX := Lib.hid hX
    have HO := Lib.hid hO
    have HRW := Lib.hid (HR.out.next hB)
    have HGW := Lib.hid ((HG.out.below hB (Nat.le_refl _)).up hB.size)
    have HC := Lib.hid (HLA.out W HGW.out)
    obtain ⟨x0, x1, x2, x3, x4, x5⟩ := hX
    rw [hi] at x2
    rw [hm] at x3
    clear hB hO HLA
    go_wp2_with (go_at_call 61; refine HC.out.mono ?_; rintro e w2 ⟨rfl, hb2⟩; have HB2 := Lib.hid hb2; clear x0 x1 x2 x3 x4 x5 hb2; obtain ⟨x0, x1, x2, x3, x4, x5⟩ := HX.out.below HB2.out (by omega); rw [HI.out.1] at x2; rw [HI.out.2] at x3)
    have HO2 := Lib.hid (HO.out.below HB2.out)
    obtain ⟨u0, u1, u2, u3, u4, u5, u6, u7⟩ := HO2.out.cells
    have f0 := HO2.out.free 0 (by omega)
    have f1 := HO2.out.free 1 (by omega)
    have f2 := HO2.out.free 2 (by omega)
    have f3 := HO2.out.free 3 (by omega)
    have f4 := HO2.out.free 4 (by omega)
    have f5 := HO2.out.free 5 (by omega)
    have f6 := HO2.out.free 6 (by omega)
    have f7 := HO2.out.free 7 (by omega)
    obtain ⟨b, o, rfl, hbl, hcc⟩ := (HRW.out.next HB2.out).out.im (by omega)
    obtain ⟨c0, c1, c2⟩ := hcc i hi1
    obtain ⟨b2, o2, hL, hbl2, hmm⟩ := ((HRW.out.next HB2.out).each i hi1).ms.int (by omega)
    have c3 := hmm n (by omega)
    rw [hL] at c1
    have q1 : (0 : Int) ≤ (i : Int) := by omega
    have q2 : (i : Int) < (xs.length : Int) := by omega
    have q3 : (0 : Int) ≤ (n : Int) := by omega
    have q4 : (n : Int) < ((it xs i).ms.length : Int) := by omega
    clear hcc hmm hL c0 c2
    have HP := Lib.hid (HO2.out.put (⟨⟨x.tick, x.caller, (i : Int), (n : Int), x.mark, x.review⟩, it (it xs i).ms n, false⟩ : Rc))
    go_wp2_with fail
    go_region
    all_goals
      go_wp2_with fail
      generalize hw9 : (World.setCell (World.setCell (World.setCell (World.setCell (World.setCell (World.setCell (World.setCell (World.setCell w2 _ _) _ _) _ _) _ _) _ _) _ _) _ _) _ _) = w9
      have hn9 : RcBx w9 (w.heap.size + 1) (⟨⟨x.tick, x.caller, (i : Int), (n : Int), x.mark, x.review⟩, it (it xs i).ms n, false⟩ : Rc) := by
        rw [← hw9]
        exact HP.out
      have ho9 : Below w.heap.size w w9 := by
        rw [← hw9]
        exact ((HB.out.trans (HB2.out.mono HB.out.size)).trans ((putAt_only (S := fun k => k = w.heap.size + 1) rfl 0 (Flat.cells ((⟨⟨x.tick, x.caller, (i : Int), (n : Int), x.mark, x.review⟩, it (it xs i).ms n, false⟩ : Rc) : Rc)) w2 w2 0 (Only.refl _ w2)).below (B := w.heap.size) (by have := HB.out.size; have := HB2.out.size; omega) (fun k e => by omega)))
      clear hw9 u0 u1 u2 u3 u4 u5 u6 u7 f0 f1 f2 f3 f4 f5 f6 f7
      obtain ⟨m0, m1, m2, m3, m4, m5, m6, m7⟩ := hn9
      refine bodyPost_ret (v := Rc.val (⟨⟨x.tick, x.caller, (i : Int), (n : Int), x.mark, x.review⟩, it (it xs i).ms n, false⟩ : Rc)) (by simp [results, Try.results76, go_sem, m0, m1, m2, m3, m4, m5, m6, m7]) rfl ?_
      exact ⟨by simp [Rc.val, HI.out.1, HI.out.2], below_next ho9 (below_drew _)⟩
  · have hp := (laK_at hk).1
    have HLA := Lib.hid (fun W (h : Lst W W.heap.size A gs) => lastOfName_any A ch gs (i : Int) (n : Int) W h (by omega))
    rw [hk] at HLA
    unfold laA at HLA
    rw [mkS_some hk, opS_some hk]
    clear hk
    unfold Cg.val
    rw [hi, hm]
    go_enter Try.func76, Try.ntmps76
    go_wp2_with fail
    generalize hW : World.alloc (World.alloc w _) _ = W
    have hB : Below w.heap.size w W := by
      rw [← hW]
      go_grown
    have hX : CgBx W w.heap.size x := by
      rw [← hW, ← hi, ← hm]
      exact (cgBx_new w x 50).below (below_alloc _ _) (by simp)
    have hO : RcOwn W (w.heap.size + 1) := by
      rw [← hW]
      exact ⟨by
        have h1 := rcBx_new (w.alloc (x.obj 50)) default 98
        rw [← hi, ← hm]
        rw [show (w.alloc (x.obj 50)).heap.size = w.heap.size + 1 by simp] at h1
        exact h1, by simp⟩
    have hSW : W.heap.size = w.heap.size + 2 := by rw [← hW]; simp
    clear hW
    have HB := Lib.hid hB
    have HX := Lib.hid hX
    have HO := Lib.hid hO
    have HRW := Lib.hid (HR.out.next hB)
    have HGW := Lib.hid ((HG.out.below hB (Nat.le_refl _)).up hB.size)
    have HC := Lib.hid (HLA.out W HGW.out)
    obtain ⟨x0, x1, x2, x3, x4, x5⟩ := hX
    rw [hi] at x2
    rw [hm] at x3
    clear hB hO HLA
    go_wp2_with (go_at_call 61; refine HC.out.mono ?_; rintro e w2 ⟨rfl, hb2⟩; have HB2 := Lib.hid hb2; clear x0 x1 x2 x3 x4 x5 hb2; obtain ⟨x0, x1, x2, x3, x4, x5⟩ := HX.out.below HB2.out (by omega); rw [HI.out.1] at x2; rw [HI.out.2] at x3)
    have HO2 := Lib.hid (HO.out.below HB2.out)
    obtain ⟨u0, u1, u2, u3, u4, u5, u6, u7⟩ := HO2.out.cells
    have f0 := HO2.out.free 0 (by omega)
    have f1 := HO2.out.free 1 (by omega)
    have f2 := HO2.out.free 2 (by omega)
    have f3 := HO2.out.free 3 (by omega)
    have f4 := HO2.out.free 4 (by omega)
    have f5 := HO2.out.free 5 (by omega)
    have f6 := HO2.out.free 6 (by omega)
    have f7 := HO2.out.free 7 (by omega)
    obtain ⟨b, o, rfl, hbl, hcc⟩ := ((HGW.out.below HB2.out (Nat.le_refl _)).up HB2.out.size).cg (by omega)
    obtain ⟨c0, c1, c2, c3, c4, c5⟩ := hcc p hp
    have q1 : (0 : Int) ≤ (p : Int) := by omega
    have q2 : (p : Int) < (gs.length : Int) := by omega
    clear hcc c0 c1 c2 c3
    have HP := Lib.hid (HO2.out.put (⟨⟨x.tick, x.caller, (i : Int), (n : Int), x.mark, x.review⟩, (it gs p).mark, (it gs p).review⟩ : Rc))
    go_wp2_with fail
    go_region
    all_goals
      go_wp2_with fail
      generalize hw9 : (World.setCell (World.setCell (World.setCell (World.setCell (World.setCell (World.setCell (World.setCell (World.setCell w2 _ _) _ _) _ _) _ _) _ _) _ _) _ _) _ _) = w9
      have hn9 : RcBx w9 (w.heap.size + 1) (⟨⟨x.tick, x.caller, (i : Int), (n : Int), x.mark, x.review⟩, (it gs p).mark, (it gs p).review⟩ : Rc) := by
        rw [← hw9]
        exact HP.out
      have ho9 : Below w.heap.size w w9 := by
        rw [← hw9]
        exact ((HB.out.trans (HB2.out.mono HB.out.size)).trans ((putAt_only (S := fun k => k = w.heap.size + 1) rfl 0 (Flat.cells ((⟨⟨x.tick, x.caller, (i : Int), (n : Int), x.mark, x.review⟩, (it gs p).mark, (it gs p).review⟩ : Rc) : Rc)) w2 w2 0 (Only.refl _ w2)).below (B := w.heap.size) (by have := HB.out.size; have := HB2.out.size; omega) (fun k e => by omega)))
      clear hw9 u0 u1 u2 u3 u4 u5 u6 u7 f0 f1 f2 f3 f4 f5 f6 f7
      obtain ⟨m0, m1, m2, m3, m4, m5, m6, m7⟩ := hn9
      refine bodyPost_ret (v := Rc.val (⟨⟨x.tick, x.caller, (i : Int), (n : Int), x.mark, x.review⟩, (it gs p).mark, (it gs p).review⟩ : Rc)) (by simp [results, Try.results76, go_sem, m0, m1, m2, m3, m4, m5, m6, m7]) rfl ?_
      exact ⟨by simp [Rc.val, HI.out.1, HI.out.2], below_next ho9 (below_drew _)⟩
end Go.Proofs.Ythbkfekbpjkhnaa
