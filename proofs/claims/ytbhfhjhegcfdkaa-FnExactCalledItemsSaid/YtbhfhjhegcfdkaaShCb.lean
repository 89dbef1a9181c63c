/- CalledItems in the model. -/
import Derived.Test.YtbhfhjhegcfdkaaShCa
import Derived.Deep.RegionHeld3
namespace Go.Proofs.Ytbhfhjhegcfdkaa
open Go.ChangeShapes Go.WideShapes Go.ChangeAt Go.RowKit Go.Lib Go.Proofs
set_option linter.unusedVariables false

set_option maxHeartbeats 8000000 in
set_option maxRecDepth 100000 in
theorem caItems_any (x : Sh) (w : World) (hr : ShIn w w.heap.size x) (hl : ShFits x) (hok : ShOk x) :
    Calls Try.prog 18 #[x.val] w fun e w' => (∃ R d ys g G, e = .returned (.slice R ys.length d) ∧ SameS (clLs x) ys ∧ ImsOwn (iv w.heap.size w'.heap.size) w' R g G ys) ∧ Below w.heap.size w w' := by
  have hb0 := below_alloc w (.cells #[.slice x.P x.l.length x.c, .slice x.V.A x.V.xs.length x.V.c, .slice x.R x.rv.length x.e] 33)
  have HR := Lib.hid (hr.next hb0)
  have HX := Lib.hid (imMem_new w _ 33 rfl (.slice x.P x.l.length x.c) (.slice x.V.A x.V.xs.length x.V.c) (.slice x.R x.rv.length x.e))
  have hsW : w.heap.size < (w.alloc (.cells #[.slice x.P x.l.length x.c, .slice x.V.A x.V.xs.length x.V.c, .slice x.R x.rv.length x.e] 33)).heap.size := by simp
  have HB0 := Lib.hid hb0
  have HF := Lib.hid hl
  have HK := Lib.hid hok
  have h14 := hok.ls.len
  clear hr hl hok hb0
  unfold Sh.val
  go_enter Try.func18, Try.ntmps18
  go_wp2_with fail
  generalize World.alloc w _ = W at HR HX HB0 hsW ⊢
  have HC := Lib.hid (itOwn_any x.P x.c x.l W HR.out.its HK.out.ls.near)
  obtain ⟨x0, x1, x2, xf⟩ := HX.out
  go_wp2_with (go_at_call 40; refine HC.out.mono ?_; rintro e w2 ⟨⟨R, d, ys, g, G, rfl, hs, ho⟩, hb2⟩; have HS := Lib.hid (ClTo.own HK.out hs); have HO := Lib.hid ho; have HB2 := Lib.hid hb2; have hyl := hs.len; clear hs ho hb2; rw [hyl])
  have hs2 := HB2.out.size
  clear hyl x0 x1 x2 xf HC
  go_loopw [11] (fun p wr => ∃ (i : Nat) (zs : List Im), i ≤ x.l.length ∧ p = .int .i64 i ∧ Hid (ClTo x zs i 0) ∧ Hid (ImsOwn (iv W.heap.size w2.heap.size) wr R g G zs) ∧ w2.heap.size ≤ wr.heap.size ∧ Hid (Below W.heap.size W wr)) (fun p _ => x.l.length - (intOf p).toNat)
  case atStart => exact ⟨0, ys, Nat.zero_le _, rfl, HS, HO, Nat.le_refl _, HB2⟩
  case round =>
    obtain ⟨i, zs, hi, rfl, HT, HO2, hsr, HB⟩ := hrel
    by_cases hil : i < x.l.length
    · have hzl := HT.out.len
      obtain ⟨g', o, rfl, rfl, hg, hO⟩ := HO2.out.out (by omega)
      have hsg : W.heap.size ≤ g' := (HO2.out.sg (by omega)).1
      have hW := hO.im i (by omega)
      have HN3 := nmN_le HK.out i hil
      have hn1 : 1 ≤ nmN x.l i := (HK.out.ls.each i hil).lo
      have HML := Lib.hid (HT.out.ml i hil)
      obtain ⟨b, o2, hL, hbe, hbl, hM⟩ := HO2.out.ms i (by omega) (by rw [HML.out]; omega)
      have HL := Lib.hid hL
      have hsb : W.heap.size ≤ b := by rw [hbe]; exact (HO2.out.sG _ (by omega)).1
      have hb2' : b < w2.heap.size := by rw [hbe]; exact (HO2.out.sG _ (by omega)).2
      have hgb : g' ≠ b := by rw [hbe]; exact fun e => HO2.out.ne (2 * i + 1) (by omega) e.symm
      obtain ⟨⟨c0, c1, c2⟩, f0, f1, f2⟩ := hW
      rw [hL, HML.out] at c1
      have HC1 := Lib.hid c1
      generalize hd2 : (it zs i).d = d2 at HC1 c1
      clear hd2 hL hM hO hbe c0 c2 f0 f1 f2
      have q1 : (0 : Int) ≤ (i : Int) := by omega
      have q2 : (i : Int) < (x.l.length : Int) := by omega
      go_wp2_with fail
      clear c1
      go_loopw [20] (fun p wr => ∃ (j : Nat) (zs : List Im), j ≤ nmN x.l i ∧ p = .int .i64 j ∧ Hid (ClTo x zs i j) ∧ Hid (ImsOwn (iv W.heap.size w2.heap.size) wr (some ⟨g', o, none⟩) g' G zs) ∧ Hid ((it zs i).L = some ⟨b, o2, none⟩) ∧ Hid (wr.cell? ⟨g', o + i * 3 + 1, none⟩ = some (.slice (some ⟨b, o2, none⟩) (nmN x.l i) d2)) ∧ w2.heap.size ≤ wr.heap.size ∧ Hid (Below W.heap.size W wr)) (fun p _ => nmN x.l i - (intOf p).toNat)
      case atStart => exact ⟨0, zs, Nat.zero_le _, rfl, HT, HO2, HL, HC1, hsr, HB⟩
      case round =>
        obtain ⟨j, zs, hj, rfl, HT, HO2, HL, HC1, hsr, HB⟩ := hrel
        by_cases hjl : j < nmN x.l i
        · have hzl := HT.out.len
          have HML := Lib.hid (HT.out.ml i hil)
          have hbd := below_drew wr
          have HBd := Lib.hid (below_next HB.out hbd)
          have HOd := Lib.hid (HO2.out.next hbd)
          have HCd := Lib.hid (show wr.drew.cell? ⟨g', o + i * 3 + 1, none⟩ = some (.slice (some ⟨b, o2, none⟩) (nmN x.l i) d2) from HC1.out)
          have hsd : w2.heap.size ≤ wr.drew.heap.size := hsr
          have HMd := Lib.hid (HX.out.below HBd.out hsW)
          have HCC := Lib.hid (caCall_any x i j wr.drew (HR.out.next HBd.out) HF.out HK.out hil hjl)
          unfold Sh.val at HCC
          have HSd := Lib.hid (show _ ∧ _ ∧ _ ∧ _ from ⟨HMd.out.c0, HMd.out.c1, HMd.out.c2, HCd.out⟩)
          have hgd : g' < wr.drew.heap.size := by
            obtain ⟨g1, o1, e1, e2, hlt, _⟩ := HOd.out.out (by omega)
            omega
          have q3 : (0 : Int) ≤ (j : Int) := by omega
          have q4 : (j : Int) < (nmN x.l i : Int) := by omega
          have hwW : w.heap.size ≠ b := by omega
          clear hbd
          go_wp2_with fail
          go_region_held3 (fun w' => w'.cell? ⟨w.heap.size, 0, none⟩ = some (.slice x.P x.l.length x.c) ∧ w'.cell? ⟨w.heap.size, 1, none⟩ = some (.slice x.V.A x.V.xs.length x.V.c) ∧ w'.cell? ⟨w.heap.size, 2, none⟩ = some (.slice x.R x.rv.length x.e) ∧ w'.cell? ⟨g', o + i * 3 + 1, none⟩ = some (.slice (some ⟨b, o2, none⟩) (nmN x.l i) d2))
            (first | exact HSd.out | exact HS7.out | exact ⟨(World.cell?_setCell_other _ _ _ _ (fun e => by have q := congrArg Addr.block e; simp at q; omega)).trans HS7.out.1, (World.cell?_setCell_other _ _ _ _ (fun e => by have q := congrArg Addr.block e; simp at q; omega)).trans HS7.out.2.1, (World.cell?_setCell_other _ _ _ _ (fun e => by have q := congrArg Addr.block e; simp at q; omega)).trans HS7.out.2.2.1, (World.cell?_setCell_other _ _ _ _ (fun e => by have q := congrArg Addr.block e; simp at q; omega)).trans HS7.out.2.2.2⟩)
            (first | (go_at_call 39; refine HCC.out.mono ?_; rintro e w7 ⟨rfl, hb7⟩; have HB7 := Lib.hid (below_next HBd.out hb7); have HO7 := Lib.hid (HOd.out.next hb7); have hs7 := Nat.le_trans hsd hb7.size; have HC7 := Lib.hid ((hb7.cell (p := ⟨g', o + i * 3 + 1, none⟩) hgd).trans HCd.out); have HS7 := Lib.hid (show _ ∧ _ ∧ _ ∧ _ from ⟨(HX.out.below HB7.out hsW).c0, (HX.out.below HB7.out hsW).c1, (HX.out.below HB7.out hsW).c2, HC7.out⟩); have hM7 := HO7.out.ms i (by omega) (by rw [HML.out]; omega); obtain ⟨b7, o7, e1, e2, e3, hM7⟩ := hM7; have e1 := HL.out.symm.trans e1; injection e1 with e1; injection e1 with e4 e5; subst e4 e5; obtain ⟨u0, u1⟩ := hM7.int j (by rw [HML.out]; exact hjl); clear hb7 hM7 e2 e3))
          have HP7 := Lib.hid (HO7.out.putMs i (by omega) j (by rw [HML.out]; exact hjl) b o2 HL.out (caI x i j))
          have HT7 := Lib.hid (HT.out.put hil hjl)
          have HL7 := Lib.hid (show (it (zs.set i (setMs (it zs i) j (caI x i j))) i).L = some ⟨b, o2, none⟩ by rw [it_set _ _ _ _ (by omega), if_pos rfl]; exact HL.out)
          have HC8 := Lib.hid ((World.cell?_setCell_other w7 ⟨b, o2 + j, none⟩ ⟨g', o + i * 3 + 1, none⟩ (.int .i64 (caI x i j)) (fun e => by have q := congrArg Addr.block e; simp at q; omega)).trans HC7.out)
          clear u0 u1
          go_wp2
          go_roundw
          case rel => exact ⟨j + 1, _, by omega, by go_num, HT7, HP7, HL7, HC8, by simpa [World.setCell] using hs7, Lib.hid (HB7.out.setCell hsb _)⟩
          case measure => simp [intOf]; omega
        · obtain rfl : j = nmN x.l i := by omega
          have HT8 := Lib.hid HT.out.row
          go_wp2
          go_roundw
          case rel => exact ⟨i + 1, zs, by omega, by go_num, HT8, HO2, hsr, HB⟩
          case measure => simp [intOf]; omega
    · obtain rfl : i = x.l.length := by omega
      have hzl := HT.out.len
      go_wp2
      go_ret
      exact ⟨⟨R, d, zs, g, G, by rw [hzl]; rfl, HT.out.done, HO2.out.mono (fun i hi => ⟨Nat.le_trans HB0.out.size hi.1, Nat.lt_of_lt_of_le hi.2 hsr⟩)⟩, below_next HB0.out HB.out⟩
end Go.Proofs.Ytbhfhjhegcfdkaa
