/- What the row of ParseCode lists. -/
import Derived.Test.YtnlcdfaojcnkpaaDoorTabS1
import Derived.Test.YtnlcdfaojcnkpaaDoorPcI
import Derived.LaidLaws
import Derived.Test.YtnlcdfaojcnkpaaDoorShelf
namespace Go.Proofs.YtnlcdfaojcnkpaaDoor
open Go.ChangeShapes Go.WideShapes Go.ChangeAt Go.RowKit

theorem gSyn : Tryd.prog.globalNamed "strconv.ErrSyntax" = some 6 := by kernel_rfl
theorem gRng : Tryd.prog.globalNamed "strconv.ErrRange" = some 7 := by kernel_rfl
theorem gSynType : (Tryd.prog.globals[6]?).map (·.type) = some 149 := by kernel_rfl
theorem gRngType : (Tryd.prog.globals[7]?).map (·.type) = some 149 := by kernel_rfl
theorem holds_of {W : World} {n nm : String} {g : Nat} {cs : Array Value} {fuel : Nat} {d : DataW Unit} {p : List MemPlace} {enc : TypeId × Value → Unit} {sp : Nat → Bool} (hg : Tryd.prog.globalNamed n = some g) (hv : W.var? Tryd.prog n = some cs)
    (hd : DataW.trod enc Tryd.prog W 0 sp false fuel 149 cs.toList = some (.iface nm d, p)) : Holds W g := by
  obtain ⟨f', u, v, e, _, _⟩ := iface_of_trod Tryd.underlying149 hd
  have h := World.var?_cell hg hv 0
  obtain ⟨l⟩ := cs
  simp only at e
  subst e
  exact ⟨.iface u v, by rw [h]; rfl, .inr ⟨u, v, rfl⟩⟩
theorem tabParseCode {W : World} (h : laidMetH Tryd.prog Rows.fnExactParseCodeRow.laid W) (hS : W.ShapedOpen Tryd.prog) : PcW W := by
  rw [MakeChecks.laidMetH_plain _ _ _ (by kernel_rfl)] at h
  obtain ⟨ps, ⟨g0, t0, cs0, f0, p0, q0, hg0, ht0, hv0, hd0, ⟨g1, t1, cs1, f1, p1, q1, hg1, ht1, hv1, hd1, ⟨g2, t2, cs2, f2, p2, q2, hg2, ht2, hv2, hd2, ⟨g3, t3, cs3, f3, p3, q3, hg3, ht3, hv3, hd3, ⟨g4, t4, cs4, f4, p4, q4, hg4, ht4, hv4, hd4, ⟨g5, t5, cs5, f5, p5, q5, hg5, ht5, hv5, hd5, ⟨g6, t6, cs6, f6, p6, q6, hg6, ht6, hv6, hd6, ⟨g7, t7, cs7, f7, p7, q7, hg7, ht7, hv7, hd7, _, _⟩, _⟩, _⟩, _⟩, _⟩, _⟩, _⟩, _⟩, _⟩ := h
  obtain rfl := Option.some.inj (gPow.symm.trans hg2)
  obtain rfl := Option.some.inj (gPowType.symm.trans ht2)
  obtain rfl := Option.some.inj (gRng.symm.trans hg4)
  obtain rfl := Option.some.inj (gRngType.symm.trans ht4)
  obtain rfl := Option.some.inj (gSyn.symm.trans hg5)
  obtain rfl := Option.some.inj (gSynType.symm.trans ht5)
  obtain rfl := Option.some.inj (gBound.symm.trans hg6)
  obtain rfl := Option.some.inj (gBoundType.symm.trans ht6)
  have hd : DataW.trod _ Tryd.prog W _ _ _ f6 129 _ = some (.agg (boundRows.map pairData), p6) := hd6
  have he : DataW.trod _ Tryd.prog W _ _ _ f2 180 _ = some (Lib.tabData .u64 Lib.pow10Tab, p2) := hd2
  exact ⟨⟨Tryd.laysM146.s1_3 W hS, holds_of gSyn hv5 hd5, holds_of gRng hv4 hd4⟩, tab_read hv6 hd, tab10_read hv2 he⟩
end Go.Proofs.YtnlcdfaojcnkpaaDoor
