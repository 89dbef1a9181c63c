/- What a law over a code and an element carries from call to call. -/
import Derived.Test.YtmncigeelfappaaDoorCdZ
import Derived.Test.YtmncigeelfappaaDoorCdW
namespace Go.Proofs.YtmncigeelfappaaDoor
open Go.ChangeShapes Go.WideShapes Go.ChangeAt Go.RowKit Go.PlainAid Go.Sort
set_option linter.unusedVariables false

def boxEl (t : TypeId) (w : World) (y : El) : World := w.alloc (.cells #[.string y.name, .int .i64 y.fam, .int .i64 y.lev, .int .i64 y.base] t)
theorem boxedE (t : TypeId) (w : World) (y : El) (n : Nat) (hn : w.heap.size = n) : ∃ W, W = boxEl t w y ∧ Below w.heap.size w W ∧ ElB W n y := ⟨_, rfl, below_alloc _ _, hn ▸ elB_new w y t⟩
/-- An element's box, in a block below B. -/
structure ElBB (w : World) (B b : Nat) (y : El) : Prop where
  lt : b < B
  le : B ≤ w.heap.size
  at_ : ElAt w b 0 y
section
variable {w w' : World} {B b : Nat} {y : El}
theorem ElBB.mk' (h : ElB w b y) : ElBB w w.heap.size b y := ⟨h.lt, Nat.le_refl _, h.at_⟩
theorem ElBB.goB (h : ElBB w B b y) (hb : Below B w w') : ElBB w' B b y := ⟨h.lt, Nat.le_trans h.le hb.size, h.at_.below hb h.lt⟩
theorem ElBB.next (h : ElBB w B b y) (hb : Below w.heap.size w w') : ElBB w' B b y := h.goB (hb.mono h.le)
theorem ElBB.elB (h : ElBB w B b y) : ElB w b y := ⟨Nat.lt_of_lt_of_le h.lt h.le, h.at_⟩
theorem ElB.only {S : Nat → Prop} (h : ElB w b y) (k : Only S w w') (hs : ¬ S b) : ElB w' b y := by
  have hb := k.block b h.lt hs
  exact ⟨Nat.lt_of_lt_of_le h.lt k.size, ⟨(World.cell?_of_block (a := ⟨b, 0, none⟩) hb).trans h.at_.c0, (World.cell?_of_block (a := ⟨b, 0 + 1, none⟩) hb).trans h.at_.c1, (World.cell?_of_block (a := ⟨b, 0 + 2, none⟩) hb).trans h.at_.c2, (World.cell?_of_block (a := ⟨b, 0 + 3, none⟩) hb).trans h.at_.c3⟩⟩
end
theorem keepCE {w : World} {b b' : Nat} {A L : Option Addr} {c d : Nat} {x : Cd} {y : El} (h : BoxAt w b A c L d x) (e : ElB w b' y) :
    w.cell? ⟨b, 0, none⟩ = some (.slice A x.els.length c) ∧ w.cell? ⟨b, 1, none⟩ = some (.slice L x.lims.length d) ∧ w.cell? ⟨b, 2, none⟩ = some (.int .i64 x.rep) ∧ w.cell? ⟨b, 3, none⟩ = some (.int .i64 x.bon) ∧ w.cell? ⟨b, 4, none⟩ = some (.int .i64 x.kee) ∧ w.cell? ⟨b, 5, none⟩ = some (.int .i64 x.fal) ∧ w.cell? ⟨b', 0, none⟩ = some (.string y.name) ∧ w.cell? ⟨b', 1, none⟩ = some (.int .i64 y.fam) ∧ w.cell? ⟨b', 2, none⟩ = some (.int .i64 y.lev) ∧ w.cell? ⟨b', 3, none⟩ = some (.int .i64 y.base) := by
  obtain ⟨e0, e1, e2, e3⟩ := e.at_
  simp only [Nat.zero_add] at e1 e2 e3
  exact ⟨h.box.c0, h.box.c1, h.box.c2, h.box.c3, h.box.c4, h.box.c5, e0, e1, e2, e3⟩
/-- A zero code's box that is made ahead of the calls. -/
structure MemB (w : World) (n g : Nat) : Prop where
  lo : n ≤ g
  lt : g < w.heap.size
  mem : CdMem w g (.slice none 0 0) (.slice none 0 0) (.int .i64 0) (.int .i64 0) (.int .i64 0) (.int .i64 0)
theorem MemB.next {w w' : World} {n g : Nat} (h : MemB w n g) (hb : Below w.heap.size w w') : MemB w' n g := ⟨h.lo, Nat.lt_of_lt_of_le h.lt hb.size, h.mem.below hb h.lt⟩
def zbox (t : TypeId) : Obj := .cells #[.slice none 0 0, .slice none 0 0, .int .i64 0, .int .i64 0, .int .i64 0, .int .i64 0] t
theorem memB_new (v : World) (n : Nat) (hn : n ≤ v.heap.size) (t : TypeId) (w' : World) (hb : Below (v.alloc (.cells #[.slice none 0 0, .slice none 0 0, .int .i64 0, .int .i64 0, .int .i64 0, .int .i64 0] t)).heap.size (v.alloc (.cells #[.slice none 0 0, .slice none 0 0, .int .i64 0, .int .i64 0, .int .i64 0, .int .i64 0] t)) w') : MemB w' n v.heap.size :=
  ⟨hn, Nat.lt_of_lt_of_le (by simp) hb.size, (cdMem_new v _ _ rfl _ _ _ _ _ _).below hb (by simp)⟩
theorem memB_newd (v : World) (n : Nat) (hn : n ≤ v.heap.size) (t : TypeId) (w' : World) (hb : Below (v.alloc (.cells #[.slice none 0 0, .slice none 0 0, .int .i64 0, .int .i64 0, .int .i64 0, .int .i64 0] t)).drew.heap.size (v.alloc (.cells #[.slice none 0 0, .slice none 0 0, .int .i64 0, .int .i64 0, .int .i64 0, .int .i64 0] t)).drew w') : MemB w' n v.heap.size :=
  ⟨hn, Nat.lt_of_lt_of_le (by simp) hb.size, ((cdMem_new v _ _ rfl _ _ _ _ _ _).below (below_drewn _) (by simp)).below hb (by simp)⟩
theorem keepP {w : World} {b b' n g : Nat} {A L : Option Addr} {c d : Nat} {x : Cd} {y : El} (h : BoxAt w b A c L d x) (e : ElB w b' y) (m : MemB w n g) (h1 : b ≠ g) (h2 : b' ≠ g) (u0 u1 u2 u3 u4 u5 : Value) :
    ((((((w.setCell ⟨g, 0, none⟩ u0).setCell ⟨g, 1, none⟩ u1).setCell ⟨g, 2, none⟩ u2).setCell ⟨g, 3, none⟩ u3).setCell ⟨g, 4, none⟩ u4).setCell ⟨g, 5, none⟩ u5).cell? ⟨b, 0, none⟩ = some (.slice A x.els.length c) ∧ ((((((w.setCell ⟨g, 0, none⟩ u0).setCell ⟨g, 1, none⟩ u1).setCell ⟨g, 2, none⟩ u2).setCell ⟨g, 3, none⟩ u3).setCell ⟨g, 4, none⟩ u4).setCell ⟨g, 5, none⟩ u5).cell? ⟨b, 1, none⟩ = some (.slice L x.lims.length d) ∧ ((((((w.setCell ⟨g, 0, none⟩ u0).setCell ⟨g, 1, none⟩ u1).setCell ⟨g, 2, none⟩ u2).setCell ⟨g, 3, none⟩ u3).setCell ⟨g, 4, none⟩ u4).setCell ⟨g, 5, none⟩ u5).cell? ⟨b, 2, none⟩ = some (.int .i64 x.rep) ∧ ((((((w.setCell ⟨g, 0, none⟩ u0).setCell ⟨g, 1, none⟩ u1).setCell ⟨g, 2, none⟩ u2).setCell ⟨g, 3, none⟩ u3).setCell ⟨g, 4, none⟩ u4).setCell ⟨g, 5, none⟩ u5).cell? ⟨b, 3, none⟩ = some (.int .i64 x.bon) ∧ ((((((w.setCell ⟨g, 0, none⟩ u0).setCell ⟨g, 1, none⟩ u1).setCell ⟨g, 2, none⟩ u2).setCell ⟨g, 3, none⟩ u3).setCell ⟨g, 4, none⟩ u4).setCell ⟨g, 5, none⟩ u5).cell? ⟨b, 4, none⟩ = some (.int .i64 x.kee) ∧ ((((((w.setCell ⟨g, 0, none⟩ u0).setCell ⟨g, 1, none⟩ u1).setCell ⟨g, 2, none⟩ u2).setCell ⟨g, 3, none⟩ u3).setCell ⟨g, 4, none⟩ u4).setCell ⟨g, 5, none⟩ u5).cell? ⟨b, 5, none⟩ = some (.int .i64 x.fal) ∧ ((((((w.setCell ⟨g, 0, none⟩ u0).setCell ⟨g, 1, none⟩ u1).setCell ⟨g, 2, none⟩ u2).setCell ⟨g, 3, none⟩ u3).setCell ⟨g, 4, none⟩ u4).setCell ⟨g, 5, none⟩ u5).cell? ⟨b', 0, none⟩ = some (.string y.name) ∧ ((((((w.setCell ⟨g, 0, none⟩ u0).setCell ⟨g, 1, none⟩ u1).setCell ⟨g, 2, none⟩ u2).setCell ⟨g, 3, none⟩ u3).setCell ⟨g, 4, none⟩ u4).setCell ⟨g, 5, none⟩ u5).cell? ⟨b', 1, none⟩ = some (.int .i64 y.fam) ∧ ((((((w.setCell ⟨g, 0, none⟩ u0).setCell ⟨g, 1, none⟩ u1).setCell ⟨g, 2, none⟩ u2).setCell ⟨g, 3, none⟩ u3).setCell ⟨g, 4, none⟩ u4).setCell ⟨g, 5, none⟩ u5).cell? ⟨b', 2, none⟩ = some (.int .i64 y.lev) ∧ ((((((w.setCell ⟨g, 0, none⟩ u0).setCell ⟨g, 1, none⟩ u1).setCell ⟨g, 2, none⟩ u2).setCell ⟨g, 3, none⟩ u3).setCell ⟨g, 4, none⟩ u4).setCell ⟨g, 5, none⟩ u5).cell? ⟨b', 3, none⟩ = some (.int .i64 y.base) :=
  keepCE (h.only (only_six w g u0 u1 u2 u3 u4 u5) h1) (e.only (only_six w g u0 u1 u2 u3 u4 u5) h2)
/-- What a call that answers with a code and a bool leaves, the code in a box. -/
structure AnsBox (w wx : World) (g : Nat) (A : Option Addr) (c : Nat) (L : Option Addr) (d p q : Nat) (R : Cd) : Prop where
  below : Below w.heap.size w wx
  box : BoxAt wx g A c L d R
  own : CdOwn wx p q A L R
  ne : p ≠ q
  hp : w.heap.size ≤ p ∧ p < wx.heap.size
  hq : w.heap.size ≤ q ∧ q < wx.heap.size
  hg : w.heap.size ≤ g
  gp : g ≠ p
  gq : g ≠ q
theorem ansBox_late {w v : World} {A L : Option Addr} {c d p q n : Nat} {R : Cd} (t : TypeId) (hb : Below w.heap.size w v) (ho : CdOwn v p q A L R) (hpq : p ≠ q) (hp : n ≤ p ∧ p < v.heap.size) (hq : n ≤ q ∧ q < v.heap.size) (hn : w.heap.size ≤ n) :
    AnsBox w (v.alloc (.cells #[.slice A R.els.length c, .slice L R.lims.length d, .int .i64 R.rep, .int .i64 R.bon, .int .i64 R.kee, .int .i64 R.fal] t)) v.heap.size A c L d p q R := by
  have hs := hb.size
  have h := below_alloc v (.cells #[.slice A R.els.length c, .slice L R.lims.length d, .int .i64 R.rep, .int .i64 R.bon, .int .i64 R.kee, .int .i64 R.fal] t)
  have hz := h.size
  exact ⟨Below_next hb h, ⟨by simp, cdBox_new v _ _ rfl A c L d R⟩, ho.keepB h, hpq, ⟨by omega, by omega⟩, ⟨by omega, by omega⟩, hs, by omega, by omega⟩
theorem ansBox_early {w v : World} {A L : Option Addr} {c d p q n g : Nat} {R : Cd} (hb : Below w.heap.size w v) (hm : MemB v w.heap.size g) (ho : CdOwn v p q A L R) (hpq : p ≠ q) (hp : n ≤ p ∧ p < v.heap.size) (hq : n ≤ q ∧ q < v.heap.size) (hn : g < n) :
    AnsBox w ((((((v.setCell ⟨g, 0, none⟩ (.slice A R.els.length c)).setCell ⟨g, 1, none⟩ (.slice L R.lims.length d)).setCell ⟨g, 2, none⟩ (.int .i64 R.rep)).setCell ⟨g, 3, none⟩ (.int .i64 R.bon)).setCell ⟨g, 4, none⟩ (.int .i64 R.kee)).setCell ⟨g, 5, none⟩ (.int .i64 R.fal)) g A c L d p q R := by
  show AnsBox w (put6 v g (.slice A R.els.length c) (.slice L R.lims.length d) (.int .i64 R.rep) (.int .i64 R.bon) (.int .i64 R.kee) (.int .i64 R.fal)) g A c L d p q R
  have hk := only_six v g (.slice A R.els.length c) (.slice L R.lims.length d) (.int .i64 R.rep) (.int .i64 R.bon) (.int .i64 R.kee) (.int .i64 R.fal)
  have hz := hk.size
  have hl := hm.lo
  have ht := hm.lt
  have hM := hm.mem.all (.slice A R.els.length c) (.slice L R.lims.length d) (.int .i64 R.rep) (.int .i64 R.bon) (.int .i64 R.kee) (.int .i64 R.fal)
  exact ⟨below_six hb g hl _ _ _ _ _ _, ⟨by omega, ⟨hM.c0, hM.c1, hM.c2, hM.c3, hM.c4, hM.c5⟩⟩, ho.keep hk (by omega) (by omega), hpq, ⟨by omega, by omega⟩, ⟨by omega, by omega⟩, hl, by omega, by omega⟩
end Go.Proofs.YtmncigeelfappaaDoor
