/- CallersOf, both sides. -/
import Derived.Test.YthbkfekbpjkhnaaHiN
import Derived.Test.YthbkfekbpjkhnaaHiZ
import Derived.Test.YthbkfekbpjkhnaaPgNc
import Derived.Deep.RegionHeld3
namespace Go.Proofs.Ythbkfekbpjkhnaa
open Go.ChangeShapes Go.WideShapes Go.ChangeAt Go.RowKit Go.Lib Go.Proofs Go.PlainAid
set_option linter.unusedVariables false

/-- The callers of a name in the first k changes. -/
def caTo (hs : List Cg) (i n : Int) : Nat → List Int
  | 0 => []
  | k + 1 => if (it hs k).item = i ∧ (it hs k).name = n then caTo hs i n k ++ [(it hs k).caller] else caTo hs i n k
theorem caTo_hit {hs : List Cg} {i n : Int} {k : Nat} (h : (it hs k).item = i) (h2 : (it hs k).name = n) : caTo hs i n (k + 1) = caTo hs i n k ++ [(it hs k).caller] := if_pos ⟨h, h2⟩
theorem caTo_miss {hs : List Cg} {i n : Int} {k : Nat} (h : ¬ ((it hs k).item = i ∧ (it hs k).name = n)) : caTo hs i n (k + 1) = caTo hs i n k := if_neg h
theorem caTo_len (hs : List Cg) (i n : Int) : ∀ k, (caTo hs i n k).length ≤ k
  | 0 => Nat.le_refl _
  | k + 1 => by
    have := caTo_len hs i n k
    rw [caTo]
    split
    · rw [List.length_append]
      show _ + 1 ≤ _
      omega
    · omega
def CoOk (xs : List Im) (hs : List Cg) (i n : Int) : Prop := HiOk xs hs ∧ NmAt xs i n
noncomputable def coF (xs : List Im) (hs : List Cg) (i n : Int) : List Int := @ite _ (CoOk xs hs i n) (Classical.propDecidable _) (unqI (caTo hs i n hs.length)) []
theorem coF_yes {xs : List Im} {hs : List Cg} {i n : Int} (h : CoOk xs hs i n) : coF xs hs i n = unqI (caTo hs i n hs.length) := if_pos h
theorem coF_no {xs : List Im} {hs : List Cg} {i n : Int} (h : ¬ CoOk xs hs i n) : coF xs hs i n = [] := if_neg h
theorem coOk_iff {xs ys : List Im} (h : SameS xs ys) (hs : List Cg) (i n : Int) : CoOk ys hs i n ↔ CoOk xs hs i n := ⟨fun k => ⟨(hiOk_same h hs).1 k.1, k.2.same h.symm⟩, fun k => ⟨k.1.same h, k.2.same h⟩⟩
theorem coOk_same {xs ys : List Im} (h : SameS xs ys) (hs : List Cg) (i n : Int) : pB (CoOk ys hs i n) = pB (CoOk xs hs i n) := pB_iff (coOk_iff h hs i n)
theorem coF_same {xs ys : List Im} (h : SameS xs ys) (hs : List Cg) (i n : Int) : coF ys hs i n = coF xs hs i n := by
  by_cases k : CoOk xs hs i n
  · rw [coF_yes k, coF_yes ((coOk_iff h hs i n).2 k)]
  · rw [coF_no k, coF_no (fun q => k ((coOk_iff h hs i n).1 q))]
theorem coF_small (xs : List Im) (hs : List Cg) (i n : Int) : (coF xs hs i n).length ≤ 1048576 := by
  by_cases k : CoOk xs hs i n
  · rw [coF_yes k]
    have h1 := unqI_len (caTo hs i n hs.length)
    have h2 := caTo_len hs i n hs.length
    have h3 := k.1.2.few
    omega
  · rw [coF_no k]
    simp
def IntAns (w : World) (V : List Int) (p : Prop) (e : Ending) (w' : World) : Prop := (∃ R d, e = .returned (.tuple #[.slice R V.length d, .bool (pB p)]) ∧ Owned (fun i => w.heap.size ≤ i ∧ i < w'.heap.size) w' R V) ∧ Below w.heap.size w w'
theorem intAns_yes {w w' : World} {V W : List Int} {p : Prop} {R : Option Addr} {d : Nat} (h : p) (hV : V = W) (ho : Owned (fun i => w.heap.size ≤ i ∧ i < w'.heap.size) w' R W) (hb : Below w.heap.size w w') : IntAns w V p (.returned (.tuple #[.slice R W.length d, .bool true])) w' := ⟨⟨R, d, by rw [pB_yes h, hV], by rw [hV]; exact ho⟩, hb⟩
theorem intAns_no {w w' : World} {V : List Int} {p : Prop} (h : ¬ p) (hV : V = []) (hb : Below w.heap.size w w') : IntAns w V p (.returned (.tuple #[.slice none 0 0, .bool false])) w' := by
  rw [hV]
  exact ⟨⟨none, 0, by rw [pB_no h]; rfl, Owned.nil _ _ _⟩, hb⟩
/-- A number that is there already. -/
theorem l1Put_seen (A : Option Addr) (c : Nat) (l : List Int) (u : Int) (w : World) (hr : Lst w w.heap.size A l) (hl : l.length ≤ 1000) (hs : Ris l) (hu : u ∈ l) :
    Calls Try.prog 65 #[.slice A l.length c, .int .i64 u] w fun e w' => e = .returned (.slice A l.length c) ∧ Below w.heap.size w w' := by
  obtain ⟨q0, hq0, hqe⟩ := mem_itR hu
  obtain ⟨b, o, rfl, hbl, hce⟩ := hr.int (by omega)
  have HC := Lib.hid hce
  have HS := Lib.hid hs
  clear hr hs hu hce
  go_enter Try.func65, Try.ntmps65
  go_wp2
  go_loopw [5] (fun v wr => ∃ i : Nat, i ≤ q0 ∧ v = .int .i64 i ∧ wr = w) (fun v _ => l.length - (intOf v).toNat)
  case atStart => exact ⟨0, Nat.zero_le _, rfl, rfl⟩
  case round =>
    obtain ⟨i, hi, rfl, rfl⟩ := hrel
    have c0 := HC.out i (by omega)
    have k1 : (i : Int) < (l.length : Int) := by omega
    have k2 : (0 : Int) ≤ (i : Int) := by omega
    rcases Nat.lt_or_ge i q0 with hlt | hge
    · have hlu : it l i < u := by rw [← hqe]; exact ris_it HS.out hlt hq0
      clear hqe
      go_wp2
      go_roundw
      case rel => exact ⟨i + 1, by omega, by go_num, trivial⟩
      case measure => simp [intOf]; omega
    · obtain rfl : i = q0 := by omega
      rw [hqe] at c0
      clear hqe
      go_wp2
      go_ret
      exact ⟨rfl, Below.refl _ _⟩
/-- Sorted and compacted. -/
theorem sorted_own {w : World} {g : Nat} {zs : List Int} (h : IRow w g zs) : OwnAt w g 0 zs := h.own
theorem row_baseI {w : World} {B B' sz n : Nat} {e : TypeId} {v : Value} {cs : List Value} (h : w.ownsRow B e sz v n cs) (hB : B' ≤ B) : w.ownsRow B' e sz v n cs := by
  refine ⟨h.1, ?_⟩
  rcases h.2 with h2 | ⟨g, cap, cur, hv, h1, h2⟩
  · exact .inl h2
  · exact .inr ⟨g, cap, cur, hv, Nat.le_trans hB h1, h2⟩
structure RowSh (w : World) (A : Option Addr) (c : Nat) (xs : List Int) : Prop where
  lst : Lst w w.heap.size A xs
  none_ : A = none → c = 0 ∧ xs = []
  cap : xs.length ≤ c ∧ c ≤ 9223372036854775807
  off : ∀ a, A = some a → ∃ b, a = ⟨b, 0, none⟩
theorem row_shape {w : World} {B : Nat} {v : Value} {xs : List Int} (h : w.ownsRow B 3 1 v xs.length (xs.map (Value.int .i64))) : ∃ A c, v = .slice A xs.length c ∧ RowSh w A c xs ∧ Owned (fun i => B ≤ i ∧ i < w.heap.size) w A xs := by
  have h' : w.ownsRow B 3 1 v xs.length (xs.flatMap Flat.cells) := by rw [flatMap_int]; exact h
  rcases h.2 with ⟨hv, h0⟩ | ⟨g, cap, cur, hv, hB, _, h3, h4, _⟩
  · obtain rfl : xs = [] := List.eq_nil_of_length_eq_zero h0
    exact ⟨none, 0, hv, ⟨Lst.nil _ _ _, fun _ => ⟨rfl, rfl⟩, ⟨Nat.le_refl _, by omega⟩, (fun a e => by cases e)⟩, Owned.nil _ _ _⟩
  · subst hv
    have hlt := h.lt g rfl
    have ho : Owned (fun i => B ≤ i ∧ i < w.heap.size) w (some ⟨g, 0, none⟩) xs := fun _ => ⟨g, 0, rfl, hlt, hlt.2, own_of_row xs h'⟩
    unfold maxLen at h4
    exact ⟨some ⟨g, 0, none⟩, cap, rfl, ⟨ho.lst, (fun e => by cases e), ⟨h3, h4⟩, fun a e => ⟨g, (Option.some.inj e).symm⟩⟩, ho⟩
set_option maxHeartbeats 2000000 in
set_option maxRecDepth 100000 in
theorem sCallersOf_a (P : Option Addr) (c : Nat) (xs : List Im) (A : Option Addr) (ch : Nat) (hs : List Cg) (i n : Int) (w : World) (hr : Ims w w.heap.size P xs) (hl : ImsFits xs) (hg : Lst w w.heap.size A hs) (hgl : hs.length ≤ 1048576) :
    Calls Try.prog 35 #[.slice P xs.length c, .slice A hs.length ch, .int .i64 i, .int .i64 n] w (IntAns w (coF xs hs i n) (CoOk xs hs i n)) := by
  have HA := Lib.hid (hiAsked_any P c xs A ch hs w hr hl hg hgl)
  have HR := Lib.hid hr
  have HG := Lib.hid hg
  clear hr hl hg
  by_cases hok : HiOk xs hs
  rotate_left
  · have hn : ¬ CoOk xs hs i n := fun h => hok h.1
    have HV := Lib.hid (And.intro hn (coF_no hn))
    rw [pB_no hok] at HA
    clear hok hn
    go_enter Try.func35, Try.ntmps35
    go_wp2_with fail
    refine HA.out.mono ?_
    rintro e w1 ⟨rfl, hb1⟩
    have HB1 := Lib.hid hb1
    clear hb1 HA
    go_wp2
    go_returns
    exact intAns_no HV.out.1 HV.out.2 HB1.out
  rw [pB_yes hok] at HA
  have HN := Lib.hid (fun W (h : Ims W W.heap.size P xs) => (hiName_any P c xs xs i n W (fun _ _ => rfl) rfl h hok.1.len (fun k hk => (hok.1.each k hk).hi)).mono fun _ _ h => And.intro h.1 h.2.symm)
  by_cases hnm : NmAt xs i n
  rotate_left
  · have hn : ¬ CoOk xs hs i n := fun h => hnm h.2
    have HV := Lib.hid (And.intro hn (coF_no hn))
    rw [pB_no hnm] at HN
    clear hok hnm hn
    go_enter Try.func35, Try.ntmps35
    go_wp2_with fail
    refine HA.out.mono ?_
    rintro e w1 ⟨rfl, hb1⟩
    have HB1 := Lib.hid hb1
    clear hb1 HA
    go_wp2_with (go_at_call 64; refine (HN.out _ (HR.out.next HB1.out)).mono ?_; rintro e w2 ⟨rfl, rfl⟩)
    go_returns
    exact intAns_no HV.out.1 HV.out.2 HB1.out
  rw [pB_yes hnm] at HN
  have hy : CoOk xs hs i n := ⟨hok, hnm⟩
  have HV := Lib.hid (And.intro hy (coF_yes hy))
  have h60 := hok.2.few
  clear hok hnm hy
  go_enter Try.func35, Try.ntmps35
  go_wp2_with fail
  refine HA.out.mono ?_
  rintro e w1 ⟨rfl, hb1⟩
  have HB1 := Lib.hid hb1
  clear hb1 HA
  go_wp2_with (go_at_call 64; refine (HN.out _ (HR.out.next HB1.out)).mono ?_; rintro e w2 ⟨rfl, rfl⟩)
  go_loopw [10, 26] (fun v q wr => ∃ (k : Nat) (L : List Int), k ≤ hs.length ∧ q = .int .i64 k ∧ Hid (UOI (caTo hs i n k) L) ∧ Hid (wr.ownsRow w.heap.size 3 1 v L.length (L.map (Value.int .i64))) ∧ L.length ≤ 1000 ∧ Hid (Below w.heap.size w wr)) (fun _ q _ => hs.length - (intOf q).toNat)
  case atStart => exact ⟨0, [], Nat.zero_le _, rfl, Lib.hid UOI.nil, Lib.hid ⟨rfl, .inl ⟨rfl, rfl⟩⟩, by simp, HB1⟩
  case round =>
    obtain ⟨k, L, hk, rfl, HU, HO, hL, HB⟩ := hrel
    by_cases hlt : k < hs.length
    · obtain ⟨b, o, rfl, hbl, hcc⟩ := (HG.out.below HB.out (Nat.le_refl _)).cg (by omega)
      obtain ⟨c0, c1, c2, c3, c4, c5⟩ := hcc k hlt
      have hi1 : (0 : Int) ≤ (k : Int) := by omega
      have hi2 : (k : Int) < (hs.length : Int) := by omega
      clear hcc hbl
      by_cases hm : (it hs k).item = i ∧ (it hs k).name = n
      · obtain ⟨AL, cL, hv, hsh, _⟩ := row_shape HO.out
        subst hv
        have HSH := Lib.hid hsh
        have HE := Lib.hid (caTo_hit hm.1 hm.2)
        rw [hm.1] at c2
        rw [hm.2] at c3
        clear hm hsh
        by_cases hin : (it hs k).caller ∈ L
        · have HU2 := Lib.hid (show UOI (caTo hs i n (k + 1)) L by rw [HE.out]; exact HU.out.seen hin)
          have HIN := Lib.hid hin
          clear hin
          go_wp2_with (go_at_call 65; refine (l1Put_seen AL cL L (it hs k).caller _ (HSH.out.lst.below (by go_grown) (Nat.le_refl _) |>.up (by simp)) hL HU.out.str HIN.out).mono ?_; rintro e w3 ⟨rfl, hb3⟩; have HB3 := Lib.hid (Below_next HB.out (Below_next (show Below wr.heap.size wr _ from by go_grown) hb3)); have HO3 := Lib.hid (own_next HO.out (Below_next (show Below wr.heap.size wr _ from by go_grown) hb3)); clear hb3)
          go_roundw
          case rel => exact ⟨k + 1, L, by omega, by go_num, HU2, HO3, hL, HB3⟩
          case measure => simp [intOf]; omega
        · have HIN := Lib.hid hin
          clear hin
          go_wp2_with (go_at_call 65; refine (l1Put_any 0 AL cL L (it hs k).caller _ (HSH.out.lst.below (by go_grown) (Nat.le_refl _) |>.up (by simp)) HSH.out.none_ HSH.out.cap (fun _ _ _ => trivial) HSH.out.off hL HU.out.str HIN.out).mono ?_; rintro e w3 ⟨⟨r, v, rfl, hrow, hris, hperm⟩, hb3⟩; have HB3 := Lib.hid (Below_next HB.out (Below_next (show Below wr.heap.size wr _ from by go_grown) hb3)); have HO3 := Lib.hid (row_baseI hrow (Nat.le_trans HB.out.size (by simp))); have HPR := Lib.hid (And.intro hris hperm); clear hb3 hrow hris hperm)
          have HU2 := Lib.hid (show UOI (caTo hs i n (k + 1)) r from ⟨HPR.out.1, fun y => by
            rw [HE.out, HPR.out.2.mem_iff, List.mem_cons, List.mem_append, List.mem_singleton, ← HU.out.mem y]
            exact ⟨fun h => h.elim .inr .inl, fun h => h.elim .inr .inl⟩⟩)
          have hrl : r.length ≤ 1000 := by
            have h1 := HU2.out.eq
            have h2 := unqI_len (caTo hs i n (k + 1))
            have h3 := caTo_len hs i n (k + 1)
            rw [h1]
            omega
          go_roundw
          case rel => exact ⟨k + 1, r, by omega, by go_num, HU2, HO3, hrl, HB3⟩
          case measure => simp [intOf]; omega
      · have HU2 := Lib.hid (show UOI (caTo hs i n (k + 1)) L by rw [caTo_miss hm]; exact HU.out)
        by_cases hm1 : (it hs k).item = i
        · have hd : ((it hs k).name == n) = false := by simpa using fun e => hm ⟨hm1, e⟩
          rw [hm1] at c2
          clear hm hm1
          go_wp2
          go_roundw
          case rel => exact ⟨k + 1, L, by omega, by go_num, HU2, Lib.hid (own_next HO.out (by go_grown)), hL, Lib.hid (Below_next HB.out (by go_grown))⟩
          case measure => simp [intOf]; omega
        · have hd : ((it hs k).item == i) = false := by simpa using hm1
          clear hm hm1
          go_wp2
          go_roundw
          case rel => exact ⟨k + 1, L, by omega, by go_num, HU2, Lib.hid (own_next HO.out (by go_grown)), hL, Lib.hid (Below_next HB.out (by go_grown))⟩
          case measure => simp [intOf]; omega
    · obtain rfl : k = hs.length := by omega
      obtain ⟨AL, cL, hv, _, hown⟩ := row_shape HO.out
      subst hv
      have HOW := Lib.hid hown
      have HE := Lib.hid (show coF xs hs i n = L by rw [HV.out.2, HU.out.eq])
      clear hown
      go_wp2
      go_returns
      exact intAns_yes HV.out.1 HE.out HOW.out HB.out
end Go.Proofs.Ythbkfekbpjkhnaa
