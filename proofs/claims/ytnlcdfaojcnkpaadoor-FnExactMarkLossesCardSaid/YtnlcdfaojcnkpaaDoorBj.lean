/- Maps keyed by strings that a call keeps to itself: which keys stand in them, and what numbers. Lists that are known, as the program tells them by a map. -/
import Derived.Maps.OwnSet
import Derived.WalkSpells
import Derived.Test.YtnlcdfaojcnkpaaDoorBf
import Derived.Test.YtnlcdfaojcnkpaaDoorBg
import Derived.Carry
namespace Go.Proofs.YtnlcdfaojcnkpaaDoor
open Go.Maps Go.WideShapes
set_option linter.unusedVariables false

/-- A string as a key. -/
def strL (s : ByteArray) : Lit := .string s.data.toList
theorem strL_inj {s t : ByteArray} (h : strL s = strL t) : s = t := by
  unfold strL at h
  injection h with h1
  exact ByteArray.ext (Array.ext' h1)
theorem strL_key (s : ByteArray) : WideAt.IsKeyLit (strL s) := trivial
/-- The keys of the map are the strings that S tells. -/
structure Keys (D : DataW Unit) (S : ByteArray → Prop) : Prop where
  map : IsMap D
  str : ∀ es, D = .map es → ∀ p, p ∈ es → ∃ s : ByteArray, p.1 = strL s
  has : ∀ s, Maps.has D (strL s) = true ↔ S s
theorem keys_none : Keys (.map []) (fun _ => False) := ⟨isMap_empty, fun es h p hp => (by cases h; cases hp), fun s => (by simp [Maps.has])⟩
theorem keys_same {D : DataW Unit} {S T : ByteArray → Prop} (h : Keys D S) (e : ∀ s, S s ↔ T s) : Keys D T := ⟨h.map, h.str, fun s => (h.has s).trans (e s)⟩
theorem keys_put {D : DataW Unit} {S : ByteArray → Prop} (h : Keys D S) (n : ByteArray) (v : DataW Unit) : Keys (D.put (strL n) v) (fun s => S s ∨ s = n) := by
  refine ⟨h.map.put _ _, ?_, fun s => ?_⟩
  · obtain ⟨es, rfl⟩ := h.map
    intro fs hf p hp
    have hf' : DataW.insert (strL n, v) (es.filter fun p => !p.1.sameKey (strL n)) = fs := by
      have : DataW.map (DataW.insert (strL n, v) (es.filter fun p => !p.1.sameKey (strL n))) = .map fs := hf
      injection this
    rw [← hf'] at hp
    rcases List.mem_cons.1 ((insert_perm (strL n, v) _).mem_iff.1 hp) with e | e
    · exact ⟨n, by rw [e]⟩
    · exact h.str es rfl p (List.mem_filter.1 e).1
  · by_cases e : s = n
    · subst e
      rw [has_put_same h.map (strL_key _)]
      simp
    · rw [has_put_other (fun q => e (strL_inj q)), h.has s]
      exact ⟨Or.inl, fun q => q.elim id (fun q => absurd q e)⟩
theorem keys_del {D : DataW Unit} {S : ByteArray → Prop} (h : Keys D S) (n : ByteArray) : Keys (D.del (strL n)) (fun s => S s ∧ s ≠ n) := by
  refine ⟨h.map.del _, ?_, fun s => ?_⟩
  · obtain ⟨es, rfl⟩ := h.map
    intro fs hf p hp
    have hf' : (es.filter fun p => !p.1.sameKey (strL n)) = fs := by
      have : DataW.map (es.filter fun p => !p.1.sameKey (strL n)) = .map fs := hf
      injection this
    rw [← hf'] at hp
    exact h.str es rfl p (List.mem_filter.1 hp).1
  · by_cases e : s = n
    · subst e
      rw [has_del_same]
      simp
    · rw [has_del_other (fun q => e (strL_inj q)), h.has s]
      exact ⟨fun q => ⟨q, e⟩, fun q => q.1⟩
theorem keys_size {D : DataW Unit} {S : ByteArray → Prop} (h : Keys D S) : Maps.size D = 0 ↔ ∀ s, ¬ S s := by
  obtain ⟨es, rfl⟩ := h.map
  constructor
  · intro h0 s hs
    have h1 := (h.has s).2 hs
    have h2 : es.length = 0 := h0
    rw [List.length_eq_zero_iff] at h2
    rw [h2] at h1
    simp [Maps.has] at h1
  · intro h0
    cases es with
    | nil => rfl
    | cons p r =>
      obtain ⟨s, hs⟩ := h.str _ rfl p (by simp)
      refine absurd ((h.has s).1 ?_) (h0 s)
      rw [Maps.has_eq, List.any_cons, hs, WideAt.sameKey_self (strL_key s)]
      rfl
/-- The numbers of the map: at each string what f tells, 0 where there is none. -/
structure Nums (D : DataW Unit) (f : ByteArray → Int) : Prop where
  map : IsMap D
  at_ : ∀ s, D.atKey (strL s) (.lit (.int .i64 0)) = .lit (.int .i64 (f s))
theorem nums_none : Nums (.map []) (fun _ => 0) := ⟨isMap_empty, fun s => rfl⟩
theorem nums_same {D : DataW Unit} {f g : ByteArray → Int} (h : Nums D f) (e : ∀ s, f s = g s) : Nums D g := ⟨h.map, fun s => by rw [h.at_ s, e s]⟩
theorem nums_put {D : DataW Unit} {f : ByteArray → Int} (h : Nums D f) (n : ByteArray) (v : Int) : Nums (D.put (strL n) (.lit (.int .i64 v))) (fun s => if s = n then v else f s) := by
  refine ⟨h.map.put _ _, fun s => ?_⟩
  by_cases e : s = n
  · subst e
    rw [atKey_put_same h.map (strL_key _), if_pos rfl]
  · rw [atKey_put_other (fun q => e (strL_inj q)), h.at_ s, if_neg e]
theorem nums_get {D : DataW Unit} {f : ByteArray → Int} (h : Nums D f) {n : ByteArray} {c : Int} (e : D.atKey (strL n) (.lit (.int .i64 0)) = .lit (.int .i64 c)) : c = f n := by
  rw [h.at_ n] at e
  injection e with e1
  injection e1 with _ e2
  exact e2.symm
end Go.Proofs.YtnlcdfaojcnkpaaDoor

namespace Go.Proofs.YtnlcdfaojcnkpaaDoor
open Go.ChangeShapes Go.WideShapes Go.ChangeAt Go.RowKit Go.PlainAid Go.WideMaps Go.Maps
set_option linter.unusedVariables false

theorem lawStr : Keyed Tryd.prog 9 := string_keyed Tryd.underlying9
/-- The names of the first k items, and the first j of item k. -/
def NamedTo (xs : List Im) (k : Nat) (s : ByteArray) : Prop := ∃ i j, i < k ∧ j < (it xs i).ns.length ∧ it (it xs i).ns j = s
def NamedIn (xs : List Im) (k m : Nat) (s : ByteArray) : Prop := NamedTo xs k s ∨ ∃ j, j < m ∧ it (it xs k).ns j = s
theorem namedIn_zero (xs : List Im) (k : Nat) (s : ByteArray) : NamedTo xs k s ↔ NamedIn xs k 0 s := ⟨.inl, fun h => h.elim id (fun ⟨j, hj, _⟩ => absurd hj (by omega))⟩
theorem namedIn_next (xs : List Im) (k m : Nat) (s : ByteArray) : (NamedIn xs k m s ∨ s = it (it xs k).ns m) ↔ NamedIn xs k (m + 1) s := by
  constructor
  · rintro ((h | ⟨j, hj, e⟩) | e)
    · exact .inl h
    · exact .inr ⟨j, by omega, e⟩
    · exact .inr ⟨m, by omega, e.symm⟩
  · rintro (h | ⟨j, hj, e⟩)
    · exact .inl (.inl h)
    · rcases Nat.lt_or_ge j m with h' | h'
      · exact .inl (.inr ⟨j, h', e⟩)
      · obtain rfl : j = m := by omega
        exact .inr e.symm
theorem namedIn_all (xs : List Im) (k : Nat) (s : ByteArray) : NamedIn xs k (it xs k).ns.length s ↔ NamedTo xs (k + 1) s := by
  constructor
  · rintro (⟨i, j, h1, h2, h3⟩ | ⟨j, hj, e⟩)
    · exact ⟨i, j, by omega, h2, h3⟩
    · exact ⟨k, j, by omega, hj, e⟩
  · rintro ⟨i, j, h1, h2, h3⟩
    rcases Nat.lt_or_ge i k with h' | h'
    · exact .inl ⟨i, j, h', h2, h3⟩
    · obtain rfl : i = k := by omega
      exact .inr ⟨j, h2, h3⟩
theorem namedTo_zero (xs : List Im) (s : ByteArray) : False ↔ NamedTo xs 0 s := ⟨False.elim, fun ⟨i, j, h, _⟩ => absurd h (by omega)⟩
/-- .. but for those of the first k elements. -/
def Others (x : Cd) (xs : List Im) (k : Nat) (s : ByteArray) : Prop := NamedTo xs xs.length s ∧ ∀ i, i < k → (it x.els i).name ≠ s
theorem others_zero (x : Cd) (xs : List Im) (s : ByteArray) : NamedTo xs xs.length s ↔ Others x xs 0 s := ⟨fun h => ⟨h, fun i hi => absurd hi (by omega)⟩, fun h => h.1⟩
theorem others_next (x : Cd) (xs : List Im) (k : Nat) (s : ByteArray) : (Others x xs k s ∧ s ≠ (it x.els k).name) ↔ Others x xs (k + 1) s := by
  constructor
  · rintro ⟨⟨h1, h2⟩, h3⟩
    refine ⟨h1, fun i hi => ?_⟩
    rcases Nat.lt_or_ge i k with h' | h'
    · exact h2 i h'
    · obtain rfl : i = k := by omega
      exact fun e => h3 e.symm
  · rintro ⟨h1, h2⟩
    exact ⟨⟨h1, fun i hi => h2 i (by omega)⟩, fun e => h2 k (by omega) e.symm⟩
theorem others_none (x : Cd) (xs : List Im) : (∀ s, ¬ Others x xs x.els.length s) ↔ RuleP x xs 2 := by
  constructor
  · intro h i hi j hj
    rcases fndI_first x.els (it (it xs i).ns j) with ⟨h1, h2⟩ | ⟨m, h1, h2, h3, h4⟩
    · exact absurd ⟨⟨i, j, hi, hj, rfl⟩, h2⟩ (h _)
    · show 0 ≤ fndI _ _
      omega
  · rintro h s ⟨⟨i, j, hi, hj, rfl⟩, h2⟩
    have h3 : 0 ≤ fndI x.els (it (it xs i).ns j) := h i hi j hj
    rcases fndI_cases x.els (it (it xs i).ns j) with h4 | ⟨m, h4, h5, h6⟩
    · omega
    · exact h2 m h5 h6

theorem map_next {w w' : World} {k : TypeId} {R : Value → Option (DataW Unit × List MemPlace)} {b n : Nat} {D : DataW Unit} (h : w.ownsMap Tryd.prog k R b n D) (hb : Below w.heap.size w w') : w'.ownsMap Tryd.prog k R b n D := by
  have hl := h.lt
  obtain ⟨es, clock, e, r⟩ := h
  exact ⟨es, clock, by rw [hb.block b hl]; exact e, r⟩
/-- The map of names: block b, at most n of them. -/
def NameMap (w : World) (b n : Nat) (D : DataW Unit) : Prop := w.ownsMap Tryd.prog 9 (plainElem Tryd.prog 4) b n D
theorem name_key {n : ByteArray} (h : n.size ≤ 1048576) : keyOf Tryd.prog 9 (.string n) = some (strL n) := keyOf_string_mk Tryd.underlying9 (by unfold maxLen; omega)
set_option maxRecDepth 100000 in
set_option maxHeartbeats 2000000 in
theorem hasKnownNames_any (A L : Option Addr) (c d : Nat) (x : Cd) (P : Option Addr) (c1 : Nat) (xs : List Im) (w : World) (hr : CdAt w A L x) (hl : CdFits x) (hp : Ims w w.heap.size P xs) (hok : ListOk xs) :
    Calls Tryd.prog 105 #[x.val A c L d, .slice P xs.length c1] w fun e w' => e = .returned (.bool (pB (RuleP x xs 2))) ∧ Below w.heap.size w w' := by
  have hmm := @run_makeMap Tryd.prog
  obtain ⟨W, hW, hB⟩ := boxed 31 w A c L d x
  have HB := Lib.hid hB.below
  have HX := Lib.hid hB.at_
  have HR := Lib.hid (hr.below hB.below)
  have HP := Lib.hid (hp.next hB.below)
  have HK := Lib.hid hok
  have HL := Lib.hid hl
  have h14 := hok.len
  have HSW := Lib.hid hB.size
  clear hr hp hB hok hl
  unfold boxCd at hW
  unfold Cd.val
  go_enter Tryd.func105, Tryd.ntmps105
  go_wp2_with fail
  rw [← hW]
  clear hW
  generalize hw1 : World.alloc W _ = w1
  have hb1 : Below W.heap.size W w1 := by
    rw [← hw1]
    exact below_alloc _ _
  have HO1 := Lib.hid (show NameMap w1 (w.heap.size + 1) (3 * 0) (.map []) from by
    rw [← hw1, ← HSW.out]
    exact World.ownsMap_made _ _ _ _)
  have HB1 := Lib.hid hb1
  clear hw1 hb1 hmm
  go_loopw [15] (fun i wr => ∃ (k : Nat) (D : DataW Unit), k ≤ xs.length ∧ i = .int .i64 k ∧ Hid (Keys D (NamedTo xs k)) ∧ Hid (NameMap wr (w.heap.size + 1) (3 * k) D) ∧ Hid (Below W.heap.size W wr)) (fun i _ => xs.length - (intOf i).toNat)
  case atStart => exact ⟨0, .map [], Nat.zero_le _, rfl, Lib.hid (keys_same keys_none (namedTo_zero xs)), HO1, HB1⟩
  case round =>
    obtain ⟨k, D, hk, rfl, HD, HO, HBR⟩ := hrel
    by_cases hlt : k < xs.length
    · obtain ⟨b, o, rfl, hbl, hc⟩ := HP.out.out.im (by omega)
      obtain ⟨c0, c1, c2⟩ := (hc k hlt).below HBR.out hbl
      have hn1 := (HK.out.each k hlt).lo
      have hn3 := (HK.out.each k hlt).hi
      obtain ⟨b', o', hA', hbl', hc'⟩ := (HP.out.each k hlt).ns.str hn1
      rw [hA'] at c0
      have HM := Lib.hid hc'
      clear hc hc' hA'
      go_wp2_with fail
      clear c0 c1 c2
      generalize hw3 : World.alloc wr _ = w3
      have hb3 : Below wr.heap.size wr w3 := by
        rw [← hw3]
        exact below_alloc _ _
      have HB3 := Lib.hid (Below_next HBR.out hb3)
      have HO3 := Lib.hid (show NameMap w3 (w.heap.size + 1) (3 * k + 0) D from map_next HO.out hb3)
      clear hw3 hb3
      go_loopw [22] (fun i ws => ∃ (j : Nat) (E : DataW Unit), j ≤ (it xs k).ns.length ∧ i = .int .i64 j ∧ Hid (Keys E (NamedIn xs k j)) ∧ Hid (NameMap ws (w.heap.size + 1) (3 * k + j) E) ∧ Hid (Below W.heap.size W ws)) (fun i _ => (it xs k).ns.length - (intOf i).toNat)
      case atStart => exact ⟨0, D, Nat.zero_le _, rfl, Lib.hid (keys_same HD.out (namedIn_zero xs k)), HO3, HB3⟩
      case round =>
        obtain ⟨j, E, hj, rfl, HE, HOS, HBS⟩ := hrel
        by_cases hjl : j < (it xs k).ns.length
        · have hv := (HBS.out.cell (p := ⟨b', o' + j, none⟩) hbl').trans (HM.out j hjl)
          have hkey := name_key (show (it (it xs k).ns j).size ≤ 1048576 by have := ((HK.out.each k hlt).nm j hjl).hi; omega)
          go_wp2_with (first | (at_mapUpdate; refine wpList_mapUpdate_own _ rfl _ _ _ 157 rfl 9 4 lawStr Tryd.underlying157 _ (w.heap.size + 1) (3 * k + j) _ rfl HOS.out (by unfold maxLen; omega) _ _ _ rfl rfl hkey _ [] (plainElem_bool Tryd.underlying4 true) ?_; intro w4 hown hgrow))
          have HB4 := Lib.hid (HBS.out.grown hgrow HBS.out.size (fun q e => by have h1 := Option.some.inj e; have h2 := HSW.out; omega))
          have HO4 := Lib.hid (show NameMap w4 (w.heap.size + 1) (3 * k + (j + 1)) (E.put (strL (it (it xs k).ns j)) (.lit (.bool true))) from hown)
          have HE4 := Lib.hid (keys_same (keys_put HE.out (it (it xs k).ns j) (.lit (.bool true))) (namedIn_next xs k j))
          clear hown hgrow hkey hv
          go_wp2
          go_roundw
          case rel => exact ⟨j + 1, _, by omega, by go_num, HE4, HO4, HB4⟩
          case measure => simp [intOf]; omega
        · obtain rfl : j = (it xs k).ns.length := by omega
          have HQ := Lib.hid (keys_same HE.out (namedIn_all xs k))
          have HOQ := Lib.hid (show NameMap _ (w.heap.size + 1) (3 * (k + 1)) E from World.ownsMap.mono HOS.out (by omega))
          go_wp2
          go_roundw
          case rel => exact ⟨k + 1, E, by omega, by go_num, HQ, HOQ, HBS⟩
          case measure => simp [intOf]; omega
    · obtain rfl : k = xs.length := by omega
      have HD0 := Lib.hid (keys_same HD.out (others_zero x xs))
      obtain ⟨x0, x1, x2, x3, x4, x5⟩ := (HX.out.next HBR.out).box
      go_wp2_with fail
      clear x0 x1 x2 x3 x4 x5
      go_loopw [33] (fun i ws => ∃ (m : Nat) (E : DataW Unit), m ≤ x.els.length ∧ i = .int .i64 m ∧ Hid (Keys E (Others x xs m)) ∧ Hid (NameMap ws (w.heap.size + 1) (3 * xs.length) E) ∧ Hid (Below W.heap.size W ws)) (fun i _ => x.els.length - (intOf i).toNat)
      case atStart => exact ⟨0, D, Nat.zero_le _, rfl, HD0, HO, HBR⟩
      case round =>
        obtain ⟨m, E, hm, rfl, HE, HOS, HBS⟩ := hrel
        have hml := HL.out.1.1
        by_cases hmlt : m < x.els.length
        · obtain ⟨e, o', rfl, hel, hc⟩ := el1 (HR.out.below HBS.out).els m hmlt
          obtain ⟨g0, g1, g2, g3⟩ := hc
          have hkey := name_key (HL.out.1.2 m hmlt)
          go_wp2_with (first | (at_delete; refine wpList_delete_own _ rfl _ _ 157 9 rfl 4 lawStr Tryd.underlying157 _ (w.heap.size + 1) (3 * xs.length) E rfl (HOS.out.alloc _) _ _ rfl hkey ?_; intro w4 hown hturn))
          have hgrow := hturn.grown
          have HB4 := Lib.hid ((HBS.out.trans ((below_alloc _ _).mono HBS.out.size)).grown hgrow (by simp; have := HBS.out.size; omega) (fun q e => by have h1 := Option.some.inj e; have h2 := HSW.out; omega))
          have HO4 := Lib.hid (show NameMap w4 (w.heap.size + 1) (3 * xs.length) (E.del (strL (it x.els m).name)) from hown)
          have HE4 := Lib.hid (keys_same (keys_del HE.out (it x.els m).name) (others_next x xs m))
          clear hown hgrow hturn hkey g0 g1 g2 g3
          go_wp2
          go_roundw
          case rel => exact ⟨m + 1, _, by omega, by go_num, HE4, HO4, HB4⟩
          case measure => simp [intOf]; omega
        · obtain rfl : m = x.els.length := by omega
          have HS := Lib.hid ((keys_size HE.out).trans (others_none x xs))
          by_cases hz : Maps.size E = 0
          · have HV := Lib.hid (pB_yes (HS.out.1 hz))
            go_wp2_with (at_len; refine wpList_len_own _ rfl _ 157 rfl 9 4 Tryd.underlying157 _ (w.heap.size + 1) (3 * xs.length) E rfl HOS.out ?_)
            go_ret
            exact ⟨by rw [HV.out]; rfl, Below_next HB.out HBS.out⟩
          · have HV := Lib.hid (pB_no (fun q => hz (HS.out.2 q)))
            go_wp2_with (at_len; refine wpList_len_own _ rfl _ 157 rfl 9 4 Tryd.underlying157 _ (w.heap.size + 1) (3 * xs.length) E rfl HOS.out ?_)
            go_ret
            exact ⟨by rw [HV.out]; simp; omega, Below_next HB.out HBS.out⟩
end Go.Proofs.YtnlcdfaojcnkpaaDoor
