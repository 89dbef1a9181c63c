/- Items of single elements; a list with one of them in the place of another item: in plain words, and in memory. -/
import Derived.Test.YtjmdaecjgiafoaaGreatDoorPgE
import Derived.Test.YtjmdaecjgiafoaaGreatDoorBi
import Derived.Test.YtjmdaecjgiafoaaGreatDoorBk
namespace Go.Proofs.YtjmdaecjgiafoaaGreatDoor
open Go.ChangeShapes Go.WideShapes Go.ChangeAt Go.RowKit Go.PlainAid
set_option linter.unusedVariables false

def oneIm (n : ByteArray) (late : Bool) : Im := ⟨none, 0, none, 0, [n], [0], late⟩
def rplS (xs : List Im) (k : Nat) (n : ByteArray) : List Im := xs.set k (oneIm n (it xs k).late)
theorem rplS_len (xs : List Im) (k : Nat) (n : ByteArray) : (rplS xs k n).length = xs.length := by simp [rplS]
theorem rplS_it (xs : List Im) (k i : Nat) (n : ByteArray) (hk : k < xs.length) : it (rplS xs k n) i = if i = k then oneIm n (it xs k).late else it xs i := it_set _ _ _ _ hk
theorem rplS_same {xs ys : List Im} (h : SameS xs ys) (k : Nat) (n : ByteArray) (hk : k < xs.length) : SameS (rplS xs k n) (rplS ys k n) := by
  refine ⟨by rw [rplS_len, rplS_len, h.len], fun i hi => ?_⟩
  rw [rplS_len] at hi
  rw [rplS_it xs k i n hk, rplS_it ys k i n (by rw [h.len]; exact hk)]
  by_cases e : i = k
  · rw [if_pos e, if_pos e]
    exact ⟨rfl, rfl, (h.each k hk).late⟩
  · rw [if_neg e, if_neg e]
    exact h.each i hi
theorem pg_late {x : Cd} {xs : List Im} (h : PgOk x xs) : ∀ i, i < xs.length → (it xs i).late = decide (xs.length ≤ 2 * i) := h.all 7 (by omega)
/-- In a programme the right ones are late already. -/
theorem late_rpl {x : Cd} {xs : List Im} (h : PgOk x xs) (k : Nat) (n : ByteArray) (hk : k < xs.length) : SameS (lateS (rplS xs k n)) (rplS xs k n) := by
  refine ⟨by rw [lateS_len], fun i hi => ?_⟩
  rw [lateS_len, rplS_len] at hi
  rw [lateS_it _ i (by rw [rplS_len]; exact hi), rplS_len]
  refine ⟨rfl, rfl, ?_⟩
  show (it (rplS xs k n) i).late = decide (xs.length ≤ 2 * i)
  rw [rplS_it xs k i n hk]
  by_cases e : i = k
  · rw [if_pos e, e]
    exact pg_late h k hk
  · rw [if_neg e]
    exact pg_late h i hi
theorem pg_known {x : Cd} {xs : List Im} (h : PgOk x xs) : BsOk x xs := ⟨h.ask.cd, h.ask.ls, h.all 1 (by omega)⟩
noncomputable def pbI (x : Cd) (xs : List Im) : Int := sumB (basTo x xs xs.length) xs.length
theorem pbI_same {x : Cd} {xs ys : List Im} (h : SameS xs ys) : pbI x xs = pbI x ys := by
  unfold pbI
  rw [basTo_same h _ (Nat.le_refl _), h.len]
structure RgOk (x : Cd) (xs : List Im) (r : Int) (n : ByteArray) : Prop where
  ok : PgOk x xs
  lo : 0 ≤ r
  hi : r < xs.length
  new : PgOk x (rplS xs r.toNat n)
noncomputable def rgI (x : Cd) (xs : List Im) (k : Nat) (n : ByteArray) : Int := pbI x (rplS xs k n) - pbI x xs
noncomputable def rgV (x : Cd) (xs : List Im) (r : Int) (n : ByteArray) : Value := ansV (RgOk x xs r n) (rgI x xs r.toNat n)
theorem rgV_form (x : Cd) (xs : List Im) (r : Int) (n : ByteArray) : ∃ (a : Int) (b : Bool), rgV x xs r n = .tuple #[.int .i64 a, .bool b] := ansV_form _ _
theorem RgOk.same {x : Cd} {xs ys : List Im} {r : Int} {n : ByteArray} (h : SameS xs ys) (k : RgOk x xs r n) : RgOk x ys r n :=
  ⟨k.ok.same h, k.lo, by rw [h.len]; exact k.hi, k.new.same (rplS_same h _ n (by have := k.lo; have := k.hi; omega))⟩
theorem rgI_same {x : Cd} {xs ys : List Im} (h : SameS xs ys) (k : Nat) (n : ByteArray) (hk : k < xs.length) : rgI x xs k n = rgI x ys k n := by
  unfold rgI
  rw [pbI_same h, pbI_same (rplS_same h k n hk)]
theorem rgV_same {x : Cd} {xs ys : List Im} (h : SameS xs ys) (r : Int) (n : ByteArray) : rgV x xs r n = rgV x ys r n :=
  ansV_congr ⟨fun k => k.same h, fun k => k.same h.symm⟩ (fun k => rgI_same h _ n (by have := k.lo; have := k.hi; omega))
theorem rpl_name {x : Cd} {xs : List Im} {k : Nat} {n : ByteArray} (hk : k < xs.length) (h : PgOk x (rplS xs k n)) : NameOk n := by
  have h1 := (h.ask.ls.each k (by rw [rplS_len]; exact hk)).nm 0
  rw [rplS_it xs k k n hk, if_pos rfl] at h1
  exact h1 Nat.zero_lt_one
/-- A list with an item of one name, near enough to a valid one. -/
theorem rpl_near {xs : List Im} (h : ListOk xs) (k : Nat) (hk : k < xs.length) {n : ByteArray} (hn : NameOk n) : Near (rplS xs k n) := ⟨by rw [rplS_len]; have := h.len; omega, fun i hi => by
  rw [rplS_len] at hi
  rw [rplS_it xs k i n hk]
  by_cases e : i = k
  · rw [if_pos e]
    exact ⟨Nat.le_refl 1, by show 1 ≤ 3; omega, rfl, fun j hj => by
      obtain rfl : j = 0 := by
        have : j < 1 := hj
        omega
      exact hn, fun j hj => by
      obtain rfl : j = 0 := by
        have : j < 1 := hj
        omega
      exact ⟨Int.le_refl 0, by show (0 : Int) ≤ 3; omega⟩⟩
  · rw [if_neg e]
    exact h.each i hi⟩
theorem rpl_fits {xs : List Im} (h : ImsFits xs) (k : Nat) (hk : k < xs.length) {n : ByteArray} (hn : n.size ≤ 1048576) : ImsFits (rplS xs k n) := ⟨by rw [rplS_len]; exact h.len, fun i hi => by
  rw [rplS_len] at hi
  rw [rplS_it xs k i n hk]
  by_cases e : i = k
  · rw [if_pos e]
    exact ⟨⟨by show 1 ≤ 1048576; omega, fun j hj => by
      obtain rfl : j = 0 := by
        have : j < 1 := hj
        omega
      exact hn⟩, by show 1 ≤ 1048576; omega⟩
  · rw [if_neg e]
    exact h.each i hi⟩

/-- An item of one name in two blocks of its own. -/
structure OneAt (w w' : World) (n : ByteArray) (g1 g2 : Nat) : Prop where
  o1 : OwnAt w' g1 0 [n]
  o2 : OwnAt w' g2 0 ([0] : List Int)
  lo1 : w.heap.size ≤ g1
  lo2 : w.heap.size ≤ g2
  hi1 : g1 < w'.heap.size
  hi2 : g2 < w'.heap.size
  ne : g1 ≠ g2
  below : Below w.heap.size w w'
theorem own_str1 (w : World) (n : ByteArray) (t : TypeId) : OwnAt (w.alloc (.cells #[.string n] t)) w.heap.size 0 [n] :=
  ⟨fun i hi j v hv => by
    obtain rfl : i = 0 := by
      have : i < 1 := hi
      omega
    match j, hv with
    | 0, hv => obtain rfl := Option.some.inj hv; simp; rfl, fun i j hi hj => by simp⟩
theorem own_int1 (w : World) (n : Int) (t : TypeId) : OwnAt (w.alloc (.cells #[.int .i64 n] t)) w.heap.size 0 [n] :=
  ⟨fun i hi j v hv => by
    obtain rfl : i = 0 := by
      have : i < 1 := hi
      omega
    match j, hv with
    | 0, hv => obtain rfl := Option.some.inj hv; simp; rfl, fun i j hi hj => by simp⟩
theorem OwnAt.nextI {α : Type} [Flat α] {w w' : World} {g o : Nat} {xs : List α} (h : OwnAt w g o xs) (hg : g < w.heap.size) (hb : Below w.heap.size w w') : OwnAt w' g o xs := h.block (hb.block g hg)
theorem oneAt_new (w : World) (o : Obj) (n : ByteArray) (t1 t2 : TypeId) : OneAt w (((w.alloc o).alloc (.cells #[.string n] t1)).alloc (.cells #[.int .i64 0] t2)) n (w.heap.size + 1) (w.heap.size + 1 + 1) := by
  have h1 : OwnAt ((w.alloc o).alloc (.cells #[.string n] t1)) (w.alloc o).heap.size 0 [n] := own_str1 _ n t1
  have h2 : OwnAt (((w.alloc o).alloc (.cells #[.string n] t1)).alloc (.cells #[.int .i64 0] t2)) ((w.alloc o).alloc (.cells #[.string n] t1)).heap.size 0 ([0] : List Int) := own_int1 _ 0 t2
  have s1 : (w.alloc o).heap.size = w.heap.size + 1 := by simp
  have s2 : ((w.alloc o).alloc (.cells #[.string n] t1)).heap.size = w.heap.size + 1 + 1 := by simp
  rw [s1] at h1
  rw [s2] at h2
  refine ⟨h1.nextI (by rw [s2]; omega) (below_alloc _ _), h2, by omega, by omega, by simp, by simp, by omega, ?_⟩
  exact below_next (below_next (below_alloc _ _) (below_alloc _ _)) (below_alloc _ _)
theorem pnItem_any (n : ByteArray) (w : World) :
    Calls Tryz.prog 62 #[.string n] w fun e w' => ∃ g1 g2, e = .returned (.agg #[.slice (some ⟨g1, 0, none⟩) 1 1, .slice (some ⟨g2, 0, none⟩) 1 1, .bool false]) ∧ OneAt w w' n g1 g2 := by
  go_enter Tryz.func62, Tryz.ntmps62
  go_wp2
  go_returns
  exact ⟨_, _, rfl, oneAt_new _ _ _ _ _⟩
theorem singleItem_any (n : ByteArray) (w : World) :
    Calls Tryz.prog 35 #[.string n] w fun e w' => ∃ g1 g2, e = .returned (.agg #[.slice (some ⟨g1, 0, none⟩) 1 1, .slice (some ⟨g2, 0, none⟩) 1 1, .bool false]) ∧ OneAt w w' n g1 g2 := by
  go_enter Tryz.func35, Tryz.ntmps35
  go_wp2
  go_returns
  exact ⟨_, _, rfl, oneAt_new _ _ _ _ _⟩

/-- A list whose outer row is a block g of its own: whatever is stored there, the items' slices stay. -/
structure Over (w : World) (g o : Nat) (ys : List Im) : Prop where
  own : OwnAt w g o ys
  lt : g < w.heap.size
  keep : ∀ w', Only (fun i => i = g) w w' → ∀ i, i < ys.length → ImIn w' w'.heap.size (it ys i)
theorem Over.next {w w' : World} {g o : Nat} {ys : List Im} (h : Over w g o ys) (hb : Below w.heap.size w w') : Over w' g o ys :=
  ⟨h.own.nextI h.lt hb, Nat.lt_of_lt_of_le h.lt hb.size, fun w2 hk i hi => h.keep w2 ((Only.of_below hb (Nat.le_refl _)).trans hk) i hi⟩
theorem Over.ims {w : World} {g o : Nat} {ys : List Im} (h : Over w g o ys) : Ims w w.heap.size (some ⟨g, o, none⟩) ys :=
  ⟨fun _ => ⟨g, o, rfl, h.lt, h.own.cell⟩, h.keep w (Only.refl _ _)⟩
/-- An item stored. -/
theorem Over.put {w : World} {g o : Nat} {ys : List Im} (h : Over w g o ys) (k : Nat) (hk : k < ys.length) (y : Im) (hy : ∀ w', Only (fun i => i = g) w w' → ImIn w' w'.heap.size y) :
    Over (((w.setCell ⟨g, o + k * 3, none⟩ (.slice y.A y.ns.length y.c)).setCell ⟨g, o + k * 3 + 1, none⟩ (.slice y.L y.ms.length y.d)).setCell ⟨g, o + k * 3 + 2, none⟩ (.bool y.late)) g o (ys.set k y) := by
  have hp := h.own.put k y hk
  have he : putAt g (o + k * Flat.sz Im) w 0 (Flat.cells y) = ((w.setCell ⟨g, o + k * 3, none⟩ (.slice y.A y.ns.length y.c)).setCell ⟨g, o + k * 3 + 1, none⟩ (.slice y.L y.ms.length y.d)).setCell ⟨g, o + k * 3 + 2, none⟩ (.bool y.late) := rfl
  have hk3 : Only (fun i => i = g) w (((w.setCell ⟨g, o + k * 3, none⟩ (.slice y.A y.ns.length y.c)).setCell ⟨g, o + k * 3 + 1, none⟩ (.slice y.L y.ms.length y.d)).setCell ⟨g, o + k * 3 + 2, none⟩ (.bool y.late)) :=
    ((((Only.refl (fun i => i = g) w).put g (o + k * 3) rfl _)).put g (o + k * 3 + 1) rfl _).put g (o + k * 3 + 2) rfl _
  rw [he] at hp
  refine ⟨hp, Nat.lt_of_lt_of_le h.lt hk3.size, fun w' hw i hi => ?_⟩
  rw [List.length_set] at hi
  rw [it_set _ _ _ _ hk]
  by_cases e : i = k
  · rw [if_pos e]
    exact hy w' (hk3.trans hw)
  · rw [if_neg e]
    exact h.keep w' (hk3.trans hw) i hi
theorem Over.put0 {w : World} {g : Nat} {ys : List Im} (h : Over w g 0 ys) (k : Nat) (hk : k < ys.length) (y : Im) (hy : ∀ w', Only (fun i => i = g) w w' → ImIn w' w'.heap.size y) :
    Over (((w.setCell ⟨g, k * 3, none⟩ (.slice y.A y.ns.length y.c)).setCell ⟨g, k * 3 + 1, none⟩ (.slice y.L y.ms.length y.d)).setCell ⟨g, k * 3 + 2, none⟩ (.bool y.late)) g 0 (ys.set k y) := by
  have := h.put k hk y hy
  rwa [Nat.zero_add] at this
theorem over_own {S : Nat → Prop} {w : World} {g' : Nat} {P : Option Addr} {G : Nat → Nat} {ys : List Im} (h : ImsOwn S w P g' G ys) (hp : 0 < ys.length) : ∃ o, P = some ⟨g', o, none⟩ ∧ Over w g' o ys := by
  obtain ⟨g, o, e1, e2, h3, h4⟩ := h.out hp
  have e2' : g = g' := e2
  subst e2'
  refine ⟨o, e1, h4, h3, fun w' hk i hi => ⟨?_, ?_⟩⟩
  · exact ((h.ns i hi).keep hk (fun j hj hj2 => h.ne (2 * i) (by omega) (hj.symm.trans hj2))).lst
  · exact ((h.ms i hi).keep hk (fun j hj hj2 => h.ne (2 * i + 1) (by omega) (hj.symm.trans hj2))).lst
theorem OneAt.imIn {w w' w2 : World} {n : ByteArray} {g1 g2 g : Nat} {l : Bool} (h : OneAt w w' n g1 g2) (hk : Only (fun i => i = g) w' w2) (hg : g < w.heap.size) : ImIn w2 w2.heap.size ⟨some ⟨g1, 0, none⟩, 1, some ⟨g2, 0, none⟩, 1, [n], [0], l⟩ := by
  have q1 := h.lo1
  have q2 := h.lo2
  have k1 := h.o1.block (hk.block g1 h.hi1 (by omega))
  have k2 := h.o2.block (hk.block g2 h.hi2 (by omega))
  have h1 := h.hi1
  have h2 := h.hi2
  have hs := hk.size
  exact ⟨fun _ => ⟨g1, 0, rfl, by omega, k1.cell⟩, fun _ => ⟨g2, 0, rfl, by omega, k2.cell⟩⟩

theorem lateS_sim {a b : List Im} (hl : b.length = a.length) (h : ∀ i, i < a.length → (it b i).ns = (it a i).ns ∧ (it b i).ms = (it a i).ms) : SameS (lateS a) (lateS b) := by
  refine ⟨by rw [lateS_len, lateS_len, hl], fun i hi => ?_⟩
  rw [lateS_len] at hi
  rw [lateS_it a i hi, lateS_it b i (by omega), hl]
  exact ⟨(h i hi).1, (h i hi).2, rfl⟩
theorem near_sim {a b : List Im} (hl : b.length = a.length) (h : ∀ i, i < a.length → (it b i).ns = (it a i).ns ∧ (it b i).ms = (it a i).ms) (k : Near a) : Near b := ⟨by rw [hl]; exact k.len, fun i hi => by
  rw [(h i (by omega)).1, (h i (by omega)).2]
  exact k.each i (by omega)⟩
theorem set_sim {xs ys : List Im} (h : SameS xs ys) (k : Nat) (hk : k < xs.length) (n : ByteArray) (Y : Im) (h1 : Y.ns = [n]) (h2 : Y.ms = [0]) : ∀ i, i < (rplS xs k n).length → (it (ys.set k Y) i).ns = (it (rplS xs k n) i).ns ∧ (it (ys.set k Y) i).ms = (it (rplS xs k n) i).ms := fun i hi => by
  rw [rplS_len] at hi
  rw [it_set _ _ _ _ (by rw [h.len]; exact hk), rplS_it xs k i n hk]
  by_cases e : i = k
  · rw [if_pos e, if_pos e]
    exact ⟨h1, h2⟩
  · rw [if_neg e, if_neg e]
    exact ⟨(h.each i hi).ns, (h.each i hi).ms⟩

set_option maxHeartbeats 2000000 in
theorem pnReplace_any (P : Option Addr) (c : Nat) (xs : List Im) (k : Nat) (n : ByteArray) (w : World) (hr : Ims w w.heap.size P xs) (hok : ListOk xs) (hk : k < xs.length) (hn : NameOk n) :
    Calls Tryz.prog 58 #[.slice P xs.length c, .int .i64 k, .string n] w fun e w' => (∃ R d ys g G, e = .returned (.slice R ys.length d) ∧ (ys.length ≤ d ∧ d ≤ 9223372036854775807) ∧ SameS (lateS (rplS xs k n)) ys ∧ ImsOwn (fun i => w.heap.size ≤ i ∧ i < w'.heap.size) w' R g G ys) ∧ Below w.heap.size w w' := by
  have HC := Lib.hid (itOwn_any P c xs w hr hok.near)
  have HN := Lib.hid (rpl_near hok k hk hn)
  clear hr hok hn
  go_enter Tryz.func58, Tryz.ntmps58
  go_wp2_with fail
  refine HC.out.mono ?_
  rintro e w1 ⟨⟨R, d, ys, g, G, rfl, hs, ho⟩, hb1⟩
  have HB1 := Lib.hid hb1
  have HS := Lib.hid hs
  have hyl := hs.len
  have hsg := ho.sg (by omega)
  obtain ⟨o, rfl, hov⟩ := over_own ho (by omega)
  have HO := Lib.hid hov
  have hgl := hov.lt
  have hbs := hb1.size
  have hk' : k < ys.length := by omega
  have HYL := Lib.hid hyl
  clear HC hb1 hs ho hov hyl
  go_wp2_with fail
  refine (pnItem_any n w1).mono ?_
  rintro e w2 ⟨g1, g2, rfl, h1⟩
  have HB2 := Lib.hid (below_next HB1.out h1.below)
  have HO2 := Lib.hid (HO.out.next h1.below)
  have hs2 := h1.below.size
  obtain ⟨⟨m0, m1, m2⟩, f0, f1, f2⟩ := HO2.out.own.im k hk'
  have hp := HO2.out.put k hk' ⟨some ⟨g1, 0, none⟩, 1, some ⟨g2, 0, none⟩, 1, [n], [0], false⟩ (fun w' hw => h1.imIn hw hgl)
  have HP := Lib.hid hp
  have HBP := Lib.hid (((HB2.out.setCell (p := ⟨g, o + k * 3, none⟩) hsg.1 (.slice (some ⟨g1, 0, none⟩) 1 1)).setCell (p := ⟨g, o + k * 3 + 1, none⟩) hsg.1 (.slice (some ⟨g2, 0, none⟩) 1 1)).setCell (p := ⟨g, o + k * 3 + 2, none⟩) hsg.1 (.bool false))
  clear h1 hp
  go_wp2_with fail
  generalize hw3 : World.setCell (World.setCell (World.setCell w2 _ _) _ _) _ _ = w3 at HP HBP ⊢
  have hsim := set_sim HS.out k hk n ⟨some ⟨g1, 0, none⟩, 1, some ⟨g2, 0, none⟩, 1, [n], [0], false⟩ rfl rfl
  have hlen : (ys.set k ⟨some ⟨g1, 0, none⟩, 1, some ⟨g2, 0, none⟩, 1, [n], [0], false⟩).length = (rplS xs k n).length := by rw [List.length_set, rplS_len]; exact HYL.out
  have hcall := pgLate_cap (some ⟨g, o, none⟩) d (ys.set k ⟨some ⟨g1, 0, none⟩, 1, some ⟨g2, 0, none⟩, 1, [n], [0], false⟩) w3 HP.out.ims (near_sim hlen hsim HN.out)
  have HLS := Lib.hid (lateS_sim hlen hsim)
  have hsw := HBP.out.size
  rw [List.length_set] at hcall
  refine hcall.mono ?_
  rintro e w4 ⟨⟨R4, d4, zs, g4, G4, rfl, hcap, hs4, ho4⟩, hb4⟩
  have HB4 := Lib.hid (below_next HBP.out hb4)
  have HS4 := Lib.hid (HLS.out.trans hs4)
  have HO4 := Lib.hid (ho4.mono (T := fun i => w.heap.size ≤ i ∧ i < w4.heap.size) (fun i hi => ⟨Nat.le_trans hsw hi.1, hi.2⟩))
  have HC4 := Lib.hid hcap
  clear hs4 ho4 hb4 hcap hcall hlen hsim hw3
  go_wp2
  go_returns
  exact ⟨⟨R4, d4, zs, g4, G4, rfl, HC4.out, HS4.out, HO4.out⟩, HB4.out⟩
end Go.Proofs.YtjmdaecjgiafoaaGreatDoor
