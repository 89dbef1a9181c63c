/- ParseCode in the model. -/
import Derived.Test.YtnlcdfaojcnkpaaDoorPcE
import Derived.RegionTactic
import Derived.Deep.RegionHeld3
namespace Go.Proofs.YtnlcdfaojcnkpaaDoor
open Go.ChangeShapes Go.WideShapes Go.ChangeAt Go.RowKit Go.PlainAid Go.Sort
set_option linter.unusedVariables false
theorem add_off (b o j : Nat) : (⟨b, o, none⟩ : Addr).add j = ⟨b, o + j, none⟩ := by
  unfold Addr.add
  by_cases e : j = 0 <;> simp [e]
/-- An element's box. -/
structure ElB (w : World) (b : Nat) (x : El) : Prop where
  lt : b < w.heap.size
  at_ : ElAt w b 0 x
theorem ElB.next {w w' : World} {b : Nat} {x : El} (h : ElB w b x) (k : Below w.heap.size w w') : ElB w' b x := ⟨Nat.lt_of_lt_of_le h.lt k.size, h.at_.below k h.lt⟩
theorem elB_new (w : World) (y : El) (t : TypeId) : ElB (w.alloc (.cells #[.string y.name, .int .i64 y.fam, .int .i64 y.lev, .int .i64 y.base] t)) w.heap.size y := ⟨by simp, ⟨by simp, by simp, by simp, by simp⟩⟩
theorem src_new (w : World) (y : El) (t : TypeId) : 0 < 1 → ∃ ad, (some ⟨w.heap.size, 0, none⟩ : Option Addr) = some ad ∧ ∀ j u, ([y].flatMap (Flat.cells (α := El)))[j]? = some u → (w.alloc (.cells #[.string y.name, .int .i64 y.fam, .int .i64 y.lev, .int .i64 y.base] t)).cell? (ad.add j) = some u := fun _ => ⟨_, rfl, fun j u hj => by
  have hj' : (Flat.cells y)[j]? = some u := by simpa using hj
  obtain ⟨c0, c1, c2, c3⟩ := (elB_new w y t).at_
  rw [add_off]
  match j, hj' with
  | 0, hc => rw [← hc]; exact c0
  | 1, hc => rw [← hc]; exact c1
  | 2, hc => rw [← hc]; exact c2
  | 3, hc => rw [← hc]; exact c3
  | j + 4, hc => cases hc⟩
theorem own_from {B a : Nat} {o p : Option Nat} (h : o = p ∨ o = some a) (hp : ∀ k, p = some k → B ≤ k) (ha : B ≤ a) : ∀ k, o = some k → B ≤ k := fun k e => by
  rcases h with h | h
  · exact hp k (h ▸ e)
  · rw [h] at e
    cases e
    exact ha
/-- A zero code's box that is made ahead of the calls. -/
structure MemB (w : World) (n g : Nat) : Prop where
  lo : n ≤ g
  lt : g < w.heap.size
  mem : CdMem w g (.slice none 0 0) (.slice none 0 0) (.int .i64 0) (.int .i64 0) (.int .i64 0) (.int .i64 0)
theorem MemB.next {w w' : World} {n g : Nat} (h : MemB w n g) (hb : Below w.heap.size w w') : MemB w' n g := ⟨h.lo, Nat.lt_of_lt_of_le h.lt hb.size, h.mem.below hb h.lt⟩
theorem memB_new (v : World) (n : Nat) (hn : n ≤ v.heap.size) (t : TypeId) (w' : World) (hb : Below (v.alloc (.cells #[.slice none 0 0, .slice none 0 0, .int .i64 0, .int .i64 0, .int .i64 0, .int .i64 0] t)).heap.size (v.alloc (.cells #[.slice none 0 0, .slice none 0 0, .int .i64 0, .int .i64 0, .int .i64 0, .int .i64 0] t)) w') : MemB w' n v.heap.size :=
  ⟨hn, Nat.lt_of_lt_of_le (by simp) hb.size, (cdMem_new v _ _ rfl _ _ _ _ _ _).below hb (by simp)⟩
theorem memB_newd (v : World) (n : Nat) (hn : n ≤ v.heap.size) (t : TypeId) (w' : World) (hb : Below (v.alloc (.cells #[.slice none 0 0, .slice none 0 0, .int .i64 0, .int .i64 0, .int .i64 0, .int .i64 0] t)).drew.heap.size (v.alloc (.cells #[.slice none 0 0, .slice none 0 0, .int .i64 0, .int .i64 0, .int .i64 0, .int .i64 0] t)).drew w') : MemB w' n v.heap.size :=
  ⟨hn, Nat.lt_of_lt_of_le (by simp) hb.size, ((cdMem_new v _ _ rfl _ _ _ _ _ _).below (below_drewn _) (by simp)).below hb (by simp)⟩

theorem mid_len {ls : List (List UInt8)} (h : 3 ≤ ls.length) : (midL ls).length = ls.length - 3 := by
  unfold midL
  rw [List.length_take, List.length_drop]
  omega
theorem mid_it {ls : List (List UInt8)} {k : Nat} (h : k < ls.length - 3) : it (midL ls) k = it ls (2 + k) := by
  unfold midL it
  rw [List.getD_eq_getElem?_getD, List.getD_eq_getElem?_getD, List.getElem?_take_of_lt h, List.getElem?_drop]
def elsTo (nms : List UInt8 → List Int) (ls : List (List UInt8)) (k : Nat) : List El := ((midL ls).take k).map (elN nms)
theorem elsTo_next {nms : List UInt8 → List Int} {ls : List (List UInt8)} {k : Nat} (h : k < (midL ls).length) : elsTo nms ls (k + 1) = elsTo nms ls k ++ [elN nms (it (midL ls) k)] := by
  unfold elsTo
  rw [List.take_add_one, it_get (midL ls) k h]
  simp
theorem elsTo_len (nms : List UInt8 → List Int) {ls : List (List UInt8)} {k : Nat} (h : k ≤ (midL ls).length) : (elsTo nms ls k).length = k := by
  unfold elsTo
  rw [List.length_map, List.length_take]
  omega
theorem elsTo_all (nms : List UInt8 → List Int) (ls : List (List UInt8)) : elsTo nms ls (midL ls).length = (midL ls).map (elN nms) := by
  unfold elsTo
  rw [List.take_length]
theorem each_it {ls : List (List UInt8)} {Q : List UInt8 → Prop} : (∀ l ∈ midL ls, Q l) ↔ ∀ k, k < (midL ls).length → Q (it (midL ls) k) := by
  constructor
  · exact fun h k hk => h _ (it_mem hk)
  · intro h l hl
    obtain ⟨j, hj, rfl⟩ := mem_elsI hl
    exact h j hj
theorem hdW_size {l : List UInt8} : (hdW l).size ≤ l.length := by
  have h := split_len 32 l [] ((splitL 32 l).headD [])
  unfold hdW
  show ((splitL 32 l).headD []).toArray.size ≤ _
  rw [List.size_toArray]
  have hp := split_pos 32 l []
  cases hs : splitL 32 l with
  | nil => simp
  | cons a r =>
    have := split_len 32 l [] a (by
      show a ∈ splitL 32 l
      rw [hs]
      exact List.mem_cons_self ..)
    simpa using this
theorem nmsS_few (l : List UInt8) : (nmsS l).length ≤ l.length := by
  unfold nmsS
  rw [List.length_map]
  have h1 := wds_len l
  have h2 := split_few 32 l []
  unfold splitL at h1
  omega
theorem nmsI_few (l : List UInt8) : (nmsI l).length ≤ l.length := by
  unfold nmsI
  rw [List.length_map]
  have h1 := wds_len l
  have h2 := split_few 32 l []
  unfold splitL at h1
  omega
theorem parN_fits {nms : List UInt8 → List Int} (hn : ∀ l, (nms l).length ≤ l.length) {ls : List (List UInt8)} (hl : ls.length ≤ 1048576) (h1 : 1 < ls.length) (hs : ∀ l ∈ ls, l.length ≤ 1048576) : CdFits (parN nms ls) := by
  refine ⟨⟨?_, fun i hi => ?_⟩, ?_⟩
  · show ((midL ls).map (elN nms)).length ≤ _
    unfold midL
    rw [List.length_map, List.length_take, List.length_drop]
    omega
  · have hi' : i < (midL ls).length := by
      have : ((midL ls).map (elN nms)).length = (midL ls).length := List.length_map ..
      exact this ▸ hi
    have e : it ((midL ls).map (elN nms)) i = elN nms (it (midL ls) i) := by
      have := it_get (midL ls) i hi'
      unfold it
      rw [List.getD_eq_getElem?_getD, List.getElem?_map, this]
      rfl
    show (it ((midL ls).map (elN nms)) i).name.size ≤ _
    rw [e]
    show (hdW (it (midL ls) i)).size ≤ _
    have h2 := hdW_size (l := it (midL ls) i)
    have h3 : (it (midL ls) i).length ≤ 1048576 := hs _ (List.mem_of_mem_drop (List.mem_of_mem_take (it_mem hi')))
    omega
  · show (nms (it ls 1)).length ≤ _
    have h2 := hn (it ls 1)
    have h3 := hs _ (it_mem h1)
    omega
/-- A code's box of a call's own, its limits in another block of the call's own. -/
structure PsBox (w wx : World) (b : Nat) (A : Option Addr) (c : Nat) (ns : List Int) (r0 r1 r2 r3 : Int) : Prop where
  below : Below w.heap.size w wx
  mem : CdMem wx b (.slice none 0 0) (.slice A ns.length c) (.int .i64 r0) (.int .i64 r1) (.int .i64 r2) (.int .i64 r3)
  ge : w.heap.size ≤ b
  lt : b < wx.heap.size
  own : Owned (fun i => w.heap.size ≤ i ∧ i ≠ b) wx A ns
theorem psBox_late {w v : World} {A : Option Addr} {c : Nat} {ns : List Int} {r0 r1 r2 r3 : Int} (t : TypeId) (hb : Below w.heap.size w v) (ho : Owned (fun i => w.heap.size ≤ i) v A ns) :
    PsBox w (v.alloc (.cells #[.slice none 0 0, .slice A ns.length c, .int .i64 r0, .int .i64 r1, .int .i64 r2, .int .i64 r3] t)) v.heap.size A c ns r0 r1 r2 r3 := by
  have h := below_alloc v (.cells #[.slice none 0 0, .slice A ns.length c, .int .i64 r0, .int .i64 r1, .int .i64 r2, .int .i64 r3] t)
  refine ⟨Below_next hb h, cdMem_new v _ _ rfl _ _ _ _ _ _, hb.size, by simp, fun hp => ?_⟩
  obtain ⟨g, o, rfl, h1, h2, h3⟩ := ho.keepB h hp
  obtain ⟨g', o', e, _, h2', _⟩ := ho hp
  obtain ⟨rfl, rfl⟩ : g = g' ∧ o = o' := by
    have := Option.some.inj e
    injection this with e1 e2
    exact ⟨e1, e2⟩
  exact ⟨g, o, rfl, ⟨h1, by omega⟩, h2, h3⟩
theorem psBox_early {w v : World} {A : Option Addr} {c n g : Nat} {ns : List Int} {r0 r1 r2 r3 : Int} (hb : Below w.heap.size w v) (hm : MemB v w.heap.size g) (ho : Owned (fun i => n ≤ i) v A ns) (hn : g < n) :
    PsBox w (put6 v g (.slice none 0 0) (.slice A ns.length c) (.int .i64 r0) (.int .i64 r1) (.int .i64 r2) (.int .i64 r3)) g A c ns r0 r1 r2 r3 := by
  have hk := only_six v g (.slice none 0 0) (.slice A ns.length c) (.int .i64 r0) (.int .i64 r1) (.int .i64 r2) (.int .i64 r3)
  have hz := hk.size
  have hl := hm.lo
  have ht := hm.lt
  refine ⟨below_six hb g hl _ _ _ _ _ _, hm.mem.all _ _ _ _ _ _, hl, by omega, ?_⟩
  exact (ho.keep hk (fun i h1 h2 => by omega)).mono (fun i h => ⟨by omega, by omega⟩)
/-- What reading a code's text answers. -/
def PcAns (s : ByteArray) (w : World) (e : Ending) (w' : World) : Prop :=
  (IsTx s ∧ CodeAns w (txC s) (IsTx s) e w') ∨ (¬ IsTx s ∧ e = .returned (.tuple #[.agg #[.slice none 0 0, .slice none 0 0, .int .i64 0, .int .i64 0, .int .i64 0, .int .i64 0], .bool false]) ∧ Below w.heap.size w w')
end Go.Proofs.YtnlcdfaojcnkpaaDoor
