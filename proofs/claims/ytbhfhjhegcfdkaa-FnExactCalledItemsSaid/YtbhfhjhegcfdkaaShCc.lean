/- CalledItems, both sides. -/
import Derived.Test.YtbhfhjhegcfdkaaShCb
import Derived.Test.YtbhfhjhegcfdkaaItemUc
import Derived.Deep.RegionHeld3
namespace Go.Proofs.Ytbhfhjhegcfdkaa
open Go.ChangeShapes Go.WideShapes Go.ChangeAt Go.RowKit Go.Lib Go.Proofs
set_option linter.unusedVariables false

/-- An answer with items. -/
structure ItsAns (l : List Im) (w w' : World) (R : Option Addr) (ys : List Im) (g : Nat) (G : Nat → Nat) : Prop where
  val : SameS l ys
  own : ImsOwn (iv w.heap.size w'.heap.size) w' R g G ys
theorem itsNil (w w' : World) : ItsAns [] w w' none [] 0 (fun _ => 0) :=
  ⟨SameS.refl _, ⟨Owned.nil _ _ _, fun i hi => absurd hi (by simp), fun i hi => absurd hi (by simp), fun i hi => absurd hi (by simp), fun i j _ hi => absurd hi (by simp), fun hi => absurd hi (by simp), fun i hi => absurd hi (by simp)⟩⟩
set_option maxHeartbeats 2000000 in
set_option maxRecDepth 100000 in
theorem sCalledItems_any (x : Sh) (w : World) (hr : ShIn w w.heap.size x) (hl : ShFits x) :
    Calls Try.prog 5 #[x.val] w fun e w' => (∃ R d ys g G, e = .returned (.tuple #[.slice R ys.length d, .bool (clB x)]) ∧ ItsAns (clF x) w w' R ys g G) ∧ Below w.heap.size w w' := by
  have hb0 := below_alloc w (.cells #[.slice x.P x.l.length x.c, .slice x.V.A x.V.xs.length x.V.c, .slice x.R x.rv.length x.e] 33)
  have HR := Lib.hid (hr.next hb0)
  have HX := Lib.hid (imMem_new w _ 33 rfl (.slice x.P x.l.length x.c) (.slice x.V.A x.V.xs.length x.V.c) (.slice x.R x.rv.length x.e))
  have hsW : w.heap.size < (w.alloc (.cells #[.slice x.P x.l.length x.c, .slice x.V.A x.V.xs.length x.V.c, .slice x.R x.rv.length x.e] 33)).heap.size := by simp
  have HB0 := Lib.hid hb0
  have HF := Lib.hid hl
  clear hr hl hb0
  unfold Sh.val
  go_enter Try.func5, Try.ntmps5
  go_wp2_with fail
  generalize World.alloc w _ = W at HR HX HB0 hsW ⊢
  have HC := Lib.hid (caGood_any x W HR.out HF.out)
  by_cases h1 : ShOk x
  rotate_left
  · rw [pB_no h1] at HC
    have hn : ¬ (ShOk x ∧ opL x = []) := fun q => h1 q.1
    have HP := Lib.hid (And.intro (show clB x = false from pB_no hn) (clF_no hn))
    clear h1 hn
    refine HC.out.mono ?_
    rintro e w1 ⟨rfl, hb1⟩
    have HB1 := Lib.hid (below_next HB0.out hb1)
    clear hb1
    go_wp2
    go_returns
    rw [HP.out.1, HP.out.2]
    exact ⟨⟨none, 0, [], 0, fun _ => 0, rfl, itsNil _ _⟩, HB1.out⟩
  rw [pB_yes h1] at HC
  have H1 := Lib.hid h1
  clear h1
  refine HC.out.mono ?_
  rintro e w1 ⟨rfl, hb1⟩
  have HB1 := Lib.hid (below_next HB0.out hb1)
  have HX1 := Lib.hid (HX.out.below hb1 hsW)
  have HR1 := Lib.hid (HR.out.next hb1)
  have hs1 := Nat.lt_of_lt_of_le hsW hb1.size
  clear hb1 HC
  obtain ⟨x0, x1, x2, xf⟩ := HX1.out
  have HC := Lib.hid (caOpen_any x w1 HR1.out HF.out H1.out)
  rw [← opL_yes H1.out] at HC
  by_cases h2 : opL x = []
  · have hy : ShOk x ∧ opL x = [] := ⟨H1.out, h2⟩
    have HP := Lib.hid (And.intro (show clB x = true from pB_yes hy) (clF_yes hy))
    rw [h2] at HC
    clear h2 hy
    go_wp2_with (first
      | (go_at_call 17; refine HC.out.mono ?_; rintro e w2 ⟨⟨y, rfl, hy⟩, hb2⟩; have hy0 := hy.len; rw [hy0]; clear hy0 hy x0 x1 x2 xf; have HB2 := Lib.hid (below_next HB1.out hb2); have HR2 := Lib.hid (HR1.out.next hb2); obtain ⟨x0, x1, x2, xf⟩ := HX1.out.below hb2 hs1; clear hb2)
      | (go_at_call 18; refine (caItems_any x w2 HR2.out HF.out H1.out).mono ?_; rintro e w3 ⟨⟨R, d, ys, g, G, rfl, hs, ho⟩, hb3⟩; have HS := Lib.hid (And.intro hs ho); have HB3 := Lib.hid (below_next HB2.out hb3); clear hs ho hb3))
    go_returns
    rw [HP.out.1, HP.out.2]
    exact ⟨⟨R, d, ys, g, G, rfl, HS.out.1, HS.out.2.mono (fun i hi => ⟨Nat.le_trans HB2.out.size hi.1, hi.2⟩)⟩, HB3.out⟩
  · have hn : ¬ (ShOk x ∧ opL x = []) := fun q => h2 q.2
    have HP := Lib.hid (And.intro (show clB x = false from pB_no hn) (clF_no hn))
    have h3 : 0 < (opL x).length := List.length_pos_iff.2 h2
    have H3 := Lib.hid h3
    clear h2 hn h3
    go_wp2_with (go_at_call 17; go_loud (refine HC.out.mono ?_; rintro e w2 ⟨⟨y, rfl, hy⟩, hb2⟩; have hy1 : (0 : Int) < (y.xs.length : Int) := (by have hy0 := hy.len; have h3 := H3.out; omega); clear hy; have HB2 := Lib.hid (below_next HB1.out hb2); clear hb2))
    go_returns
    rw [HP.out.1, HP.out.2]
    exact ⟨⟨none, 0, [], 0, fun _ => 0, rfl, itsNil _ _⟩, HB2.out⟩
set_option maxHeartbeats 8000000 in
set_option maxRecDepth 100000 in
theorem iCalledItems_any (x : Sh) (w : World) (hr : ShIn w w.heap.size x) (hl : ShFits x) :
    Calls Try.prog 7 #[x.val] w fun e w' => (∃ R d ys g G, e = .returned (.tuple #[.slice R ys.length d, .bool (clB x)]) ∧ ItsAns (clF x) w w' R ys g G) ∧ Below w.heap.size w w' := by
  have hb0 := below_alloc w (.cells #[.slice x.P x.l.length x.c, .slice x.V.A x.V.xs.length x.V.c, .slice x.R x.rv.length x.e] 33)
  have HR := Lib.hid (hr.next hb0)
  have HX := Lib.hid (imMem_new w _ 33 rfl (.slice x.P x.l.length x.c) (.slice x.V.A x.V.xs.length x.V.c) (.slice x.R x.rv.length x.e))
  have hsW : w.heap.size < (w.alloc (.cells #[.slice x.P x.l.length x.c, .slice x.V.A x.V.xs.length x.V.c, .slice x.R x.rv.length x.e] 33)).heap.size := by simp
  have HB0 := Lib.hid hb0
  have HF := Lib.hid hl
  clear hr hl hb0
  unfold Sh.val
  go_enter Try.func7, Try.ntmps7
  go_wp2_with fail
  generalize World.alloc w _ = W at HR HX HB0 hsW ⊢
  have HC := Lib.hid (iOpenCalls_any x W HR.out HF.out)
  by_cases h1 : ShOk x
  rotate_left
  · rw [pB_no h1] at HC
    have hn : ¬ (ShOk x ∧ opL x = []) := fun q => h1 q.1
    have HP := Lib.hid (And.intro (show clB x = false from pB_no hn) (clF_no hn))
    clear h1 hn
    refine HC.out.mono ?_
    rintro e w1 ⟨⟨y, rfl, hy⟩, hb1⟩
    have HB1 := Lib.hid (below_next HB0.out hb1)
    clear hb1 hy
    go_wp2
    go_returns
    rw [HP.out.1, HP.out.2]
    exact ⟨⟨none, 0, [], 0, fun _ => 0, rfl, itsNil _ _⟩, HB1.out⟩
  rw [pB_yes h1] at HC
  have H1 := Lib.hid h1
  clear h1
  by_cases h2 : opL x = []
  rotate_left
  · have hn : ¬ (ShOk x ∧ opL x = []) := fun q => h2 q.2
    have HP := Lib.hid (And.intro (show clB x = false from pB_no hn) (clF_no hn))
    have h3 : 0 < (opL x).length := List.length_pos_iff.2 h2
    clear h2 hn
    refine HC.out.mono ?_
    rintro e w1 ⟨⟨y, rfl, hy⟩, hb1⟩
    have HB1 := Lib.hid (below_next HB0.out hb1)
    have hy0 := hy.len
    have hy1 : (0 : Int) < (y.xs.length : Int) := by omega
    clear hb1 hy hy0
    go_wp2
    go_returns
    rw [HP.out.1, HP.out.2]
    exact ⟨⟨none, 0, [], 0, fun _ => 0, rfl, itsNil _ _⟩, HB1.out⟩
  have hyy : ShOk x ∧ opL x = [] := ⟨H1.out, h2⟩
  have HP := Lib.hid (And.intro (show clB x = true from pB_yes hyy) (clF_yes hyy))
  have H2 := Lib.hid h2
  rw [h2] at HC
  clear h2 hyy
  refine HC.out.mono ?_
  rintro e w1 ⟨⟨y, rfl, hy⟩, hb1⟩
  have hy0 := hy.len
  rw [hy0]
  clear hy0 hy
  have HB1 := Lib.hid (below_next HB0.out hb1)
  have HX1 := Lib.hid (HX.out.below hb1 hsW)
  have HR1 := Lib.hid (HR.out.next hb1)
  have hs1 := Nat.lt_of_lt_of_le hsW hb1.size
  clear hb1 HC
  have HC := Lib.hid (iCleanItems_any x.P x.c x.l w1 HR1.out.its HF.out.its)
  rw [pB_yes H1.out.ls] at HC
  obtain ⟨x0, x1, x2, xf⟩ := HX1.out
  have h14 := H1.out.ls.len
  go_wp2_with (go_at_call 23; refine HC.out.mono ?_; rintro e w2 ⟨⟨R, d, ys, g, G, rfl, hs, ho⟩, hb2⟩; have HS := Lib.hid (ClTo.cln H1.out hs); have HO := Lib.hid (show ImsOwn (iv w1.heap.size w2.heap.size) w2 R g G ys from ho); have HB2 := Lib.hid hb2; have hyl := HS.out.len; clear hs ho hb2; rw [hyl])
  have hs2 := HB2.out.size
  clear hyl x0 x1 x2 xf HC
  go_loopw [31] (fun p wr => ∃ (i : Nat) (zs : List Im), i ≤ x.l.length ∧ p = .int .i64 i ∧ Hid (ClTo x zs i 0) ∧ Hid (ImsOwn (iv w1.heap.size w2.heap.size) wr R g G zs) ∧ w2.heap.size ≤ wr.heap.size ∧ Hid (Below w1.heap.size w1 wr)) (fun p _ => x.l.length - (RowKit.intOf p).toNat)
  case atStart => exact ⟨0, ys, Nat.zero_le _, rfl, HS, HO, Nat.le_refl _, HB2⟩
  case round =>
    obtain ⟨i, zs, hi, rfl, HT, HO2, hsr, HB⟩ := hrel
    by_cases hil : i < x.l.length
    · have hzl := HT.out.len
      obtain ⟨g', o, rfl, rfl, hg, hO⟩ := HO2.out.out (by omega)
      have hsg : w1.heap.size ≤ g' := (HO2.out.sg (by omega)).1
      have hW := hO.im i (by omega)
      have HN3 := nmN_le H1.out i hil
      have hn1 : 1 ≤ nmN x.l i := (H1.out.ls.each i hil).lo
      have HML := Lib.hid (HT.out.ml i hil)
      obtain ⟨b, o2, hL, hbe, hbl, hM⟩ := HO2.out.ms i (by omega) (by rw [HML.out]; omega)
      have HL := Lib.hid hL
      have hsb : w1.heap.size ≤ b := by rw [hbe]; exact (HO2.out.sG _ (by omega)).1
      have hb2' : b < w2.heap.size := by rw [hbe]; exact (HO2.out.sG _ (by omega)).2
      obtain ⟨⟨c0, c1, c2⟩, f0, f1, f2⟩ := hW
      rw [hL, HML.out] at c1
      generalize hd2 : (it zs i).d = d2 at c1
      generalize hA2 : (it zs i).A = A2 at c0
      generalize hc2 : (it zs i).c = cc2 at c0
      generalize hn2 : (it zs i).ns.length = n2 at c0
      generalize hl2 : (it zs i).late = l2 at c2
      clear hd2 hA2 hc2 hn2 hl2 hL hM hO hbe f0 f1 f2
      have q1 : (0 : Int) ≤ (i : Int) := by omega
      have q2 : (i : Int) < (x.l.length : Int) := by omega
      go_wp2_with fail
      clear c0 c1 c2
      have hb3 := below_alloc wr (.cells #[.slice A2 n2 cc2, .slice (some ⟨b, o2, none⟩) (nmN x.l i) d2, .bool l2] 56)
      have HI3 := Lib.hid (imMem_new wr _ 56 rfl (.slice A2 n2 cc2) (.slice (some ⟨b, o2, none⟩) (nmN x.l i) d2) (.bool l2))
      have hl3 : wr.heap.size < (wr.alloc (.cells #[.slice A2 n2 cc2, .slice (some ⟨b, o2, none⟩) (nmN x.l i) d2, .bool l2] 56)).heap.size := by simp
      generalize World.alloc wr _ = w3 at hb3 HI3 hl3 ⊢
      have HB3 := Lib.hid (below_next HB.out hb3)
      have HO3 := Lib.hid (HO2.out.next hb3)
      have hs3 := Nat.le_trans hsr hb3.size
      generalize hbx : wr.heap.size = bx at HI3 hl3 hsr hb3 ⊢
      clear hb3 hbx
      go_loopw [39] (fun p wr => ∃ (j : Nat) (zs : List Im), j ≤ nmN x.l i ∧ p = .int .i64 j ∧ Hid (ClTo x zs i j) ∧ Hid (ImsOwn (iv w1.heap.size w2.heap.size) wr (some ⟨g', o, none⟩) g' G zs) ∧ Hid ((it zs i).L = some ⟨b, o2, none⟩) ∧ Hid (ImMem wr bx (.slice A2 n2 cc2) (.slice (some ⟨b, o2, none⟩) (nmN x.l i) d2) (.bool l2)) ∧ bx < wr.heap.size ∧ w2.heap.size ≤ wr.heap.size ∧ Hid (Below w1.heap.size w1 wr)) (fun p _ => nmN x.l i - (RowKit.intOf p).toNat)
      case atStart => exact ⟨0, zs, Nat.zero_le _, rfl, HT, HO3, HL, HI3, hl3, hs3, HB3⟩
      case round =>
        obtain ⟨j, zs, hj, rfl, HT, HO2, HL, HI, hlx, hsr2, HB⟩ := hrel
        by_cases hjl : j < nmN x.l i
        · have hzl := HT.out.len
          have HML := Lib.hid (HT.out.ml i hil)
          have hbd := below_drew wr
          have HBd := Lib.hid (below_next HB.out hbd)
          have HOd := Lib.hid (HO2.out.next hbd)
          have HId := Lib.hid (HI.out.below hbd hlx)
          have hsd : w2.heap.size ≤ wr.drew.heap.size := hsr2
          have hlxd : bx < wr.drew.heap.size := hlx
          have HMd := Lib.hid (HX1.out.below HBd.out hs1)
          have HCC := Lib.hid (callIn_any x i j wr.drew (HR1.out.next HBd.out) HF.out H1.out hil hjl)
          rw [ansC_yes (opL_none H1.out H2.out i j hil hjl)] at HCC
          unfold Sh.val at HCC
          have HSd := Lib.hid (show _ ∧ _ ∧ _ ∧ _ from ⟨HMd.out.c0, HMd.out.c1, HMd.out.c2, HId.out.c1⟩)
          have q3 : (0 : Int) ≤ (j : Int) := by omega
          have q4 : (j : Int) < (nmN x.l i : Int) := by omega
          clear hbd
          go_wp2_with fail
          go_region_held3 (fun w' => w'.cell? ⟨w.heap.size, 0, none⟩ = some (.slice x.P x.l.length x.c) ∧ w'.cell? ⟨w.heap.size, 1, none⟩ = some (.slice x.V.A x.V.xs.length x.V.c) ∧ w'.cell? ⟨w.heap.size, 2, none⟩ = some (.slice x.R x.rv.length x.e) ∧ w'.cell? ⟨bx, 1, none⟩ = some (.slice (some ⟨b, o2, none⟩) (nmN x.l i) d2))
            (first | exact HSd.out | exact HS7.out | exact ⟨(World.cell?_setCell_other _ _ _ _ (fun e => by have q := congrArg Addr.block e; simp at q; omega)).trans HS7.out.1, (World.cell?_setCell_other _ _ _ _ (fun e => by have q := congrArg Addr.block e; simp at q; omega)).trans HS7.out.2.1, (World.cell?_setCell_other _ _ _ _ (fun e => by have q := congrArg Addr.block e; simp at q; omega)).trans HS7.out.2.2.1, (World.cell?_setCell_other _ _ _ _ (fun e => by have q := congrArg Addr.block e; simp at q; omega)).trans HS7.out.2.2.2⟩)
            (first | (go_at_call 24; refine HCC.out.mono ?_; rintro e w7 ⟨rfl, hb7⟩; have HB7 := Lib.hid (below_next HBd.out hb7); have HO7 := Lib.hid (HOd.out.next hb7); have hs7 := Nat.le_trans hsd hb7.size; have HI7 := Lib.hid (HId.out.below hb7 hlxd); have hlx7 := Nat.lt_of_lt_of_le hlxd hb7.size; have HS7 := Lib.hid (show _ ∧ _ ∧ _ ∧ _ from ⟨(HX1.out.below HB7.out hs1).c0, (HX1.out.below HB7.out hs1).c1, (HX1.out.below HB7.out hs1).c2, HI7.out.c1⟩); have hM7 := HO7.out.ms i (by omega) (by rw [HML.out]; omega); obtain ⟨b7, o7, e1, e2, e3, hM7⟩ := hM7; have e1 := HL.out.symm.trans e1; injection e1 with e1; injection e1 with e4 e5; subst e4 e5; obtain ⟨u0, u1⟩ := hM7.int j (by rw [HML.out]; exact hjl); clear hb7 hM7 e2 e3))
          have HP7 := Lib.hid (HO7.out.putMs i (by omega) j (by rw [HML.out]; exact hjl) b o2 HL.out (caI x i j))
          have HT7 := Lib.hid (HT.out.put hil hjl)
          have HL7 := Lib.hid (show (it (zs.set i (setMs (it zs i) j (caI x i j))) i).L = some ⟨b, o2, none⟩ by rw [it_set _ _ _ _ (by omega), if_pos rfl]; exact HL.out)
          have HI8 := Lib.hid (HI7.out.other ⟨b, o2 + j, none⟩ (show b ≠ bx by omega) (.int .i64 (caI x i j)))
          clear u0 u1
          go_wp2
          go_roundw
          case rel => exact ⟨j + 1, _, by omega, by go_num, HT7, HP7, HL7, HI8, by simpa [World.setCell] using hlx7, by simpa [World.setCell] using hs7, Lib.hid (HB7.out.setCell hsb _)⟩
          case measure => simp [RowKit.intOf]; omega
        · obtain rfl : j = nmN x.l i := by omega
          have HT8 := Lib.hid HT.out.row
          go_wp2
          go_roundw
          case rel => exact ⟨i + 1, zs, by omega, by go_num, HT8, HO2, hsr2, HB⟩
          case measure => simp [RowKit.intOf]; omega
    · obtain rfl : i = x.l.length := by omega
      have hzl := HT.out.len
      go_wp2
      go_returns
      rw [HP.out.1, HP.out.2]
      exact ⟨⟨R, d, zs, g, G, by rw [hzl]; rfl, HT.out.done, HO2.out.mono (fun i hi => ⟨Nat.le_of_lt (Nat.lt_of_lt_of_le hs1 hi.1), Nat.lt_of_lt_of_le hi.2 hsr⟩)⟩, below_next HB1.out HB.out⟩
end Go.Proofs.Ytbhfhjhegcfdkaa
