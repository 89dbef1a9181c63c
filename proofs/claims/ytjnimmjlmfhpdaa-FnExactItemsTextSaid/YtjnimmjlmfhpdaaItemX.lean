/- The text of an item, in the model. -/
import Derived.Test.YtjnimmjlmfhpdaaItemW
namespace Go.Proofs.Ytjnimmjlmfhpdaa
open Go.ChangeShapes Go.WideShapes Go.ChangeAt Go.RowKit
set_option linter.unusedVariables false

/-- The sign of a mark. -/
def sgn (n : Nat) : ByteArray := if n = 0 then ⟨#[]⟩ else if n = 1 then ⟨#[60]⟩ else if n = 2 then ⟨#[101]⟩ else ⟨#[42]⟩
theorem sgn_size (n : Nat) : (sgn n).size ≤ 1 := by
  unfold sgn
  split
  · exact Nat.zero_le _
  · split
    · exact Nat.le_refl _
    · split <;> exact Nat.le_refl _
/-- A name with its sign. -/
def wordT (ns : List ByteArray) (ms : List Int) (k : Nat) : ByteArray := it ns k ++ sgn (it ms k).toNat
/-- The text of the first k names. -/
def txtTo (ns : List ByteArray) (ms : List Int) : Nat → ByteArray
  | 0 => ⟨#[]⟩
  | k + 1 => (if k = 0 then ⟨#[]⟩ else txtTo ns ms k ++ ⟨#[43]⟩) ++ wordT ns ms k
def itTxt (x : Im) : ByteArray := if x.late = true then txtTo x.ns x.ms x.ns.length ++ ⟨#[32, 120]⟩ else txtTo x.ns x.ms x.ns.length
theorem txtTo_size (ns : List ByteArray) (ms : List Int) (h : ItOk ns ms) : ∀ k, k ≤ ns.length → (txtTo ns ms k).size ≤ 7 * k
  | 0, _ => Nat.le_refl _
  | k + 1, hk => by
    have h1 := (h.nm k (by omega)).hi
    have h2 := sgn_size (it ms k).toNat
    have h3 := txtTo_size ns ms h k (by omega)
    rw [txtTo, wordT]
    by_cases e : k = 0
    · rw [if_pos e, ByteArray.size_append, ByteArray.size_append]
      show 0 + _ ≤ _
      omega
    · rw [if_neg e, ByteArray.size_append, ByteArray.size_append, ByteArray.size_append]
      show _ + 1 + _ ≤ _
      omega

theorem itSigns_any (w : World) :
    Calls Try.prog 77 #[] w fun e w' => (∃ g, e = .returned (.slice (some ⟨g, 0, none⟩) 4 4) ∧ ∀ n, n < 4 → w'.cell? ⟨g, n, none⟩ = some (.string (sgn n))) ∧ Below w.heap.size w w' := by
  go_enter Try.func77, Try.ntmps77
  go_wp2
  go_returns
  refine ⟨⟨w.heap.size, rfl, fun n hn => ?_⟩, by go_grown⟩
  match n, hn with
  | 0, _ => simp [sgn]
  | 1, _ => simp [sgn]
  | 2, _ => simp [sgn]
  | 3, _ => simp [sgn]

set_option maxHeartbeats 2000000 in
theorem itText_any (x : Im) (w : World) (hr : ImIn w w.heap.size x) (hok : ItOk x.ns x.ms) :
    Calls Try.prog 56 #[x.val] w fun e w' => e = .returned (.string (itTxt x)) ∧ Below w.heap.size w w' := by
  obtain ⟨A, c, L, d, ns, ms, lt⟩ := x
  have hlo := hok.lo
  have hhi := hok.hi
  have heq := hok.eq
  obtain ⟨b, o, rfl, hbl, hc⟩ := hr.ns.str hlo
  obtain ⟨b', o', rfl, hbl', hc'⟩ := hr.ms.int (by show 0 < ms.length; simp only at hlo heq; omega)
  simp only at hlo hhi heq hbl hbl' hc hc' hok
  show Calls Try.prog 56 #[.agg #[.slice (some ⟨b, o, none⟩) ns.length c, .slice (some ⟨b', o', none⟩) ms.length d, .bool lt]] w fun e w' => e = .returned (.string (itTxt ⟨_, c, _, d, ns, ms, lt⟩)) ∧ Below w.heap.size w w'
  have HB0 := Lib.hid (below_alloc w (.cells #[.slice (some ⟨b, o, none⟩) ns.length c, .slice (some ⟨b', o', none⟩) ms.length d, .bool lt] 29))
  have HX0 := Lib.hid (imBox_new w 29 ⟨some ⟨b, o, none⟩, c, some ⟨b', o', none⟩, d, ns, ms, lt⟩)
  have HN := Lib.hid hc
  have HM := Lib.hid hc'
  have HO := Lib.hid hok
  have HE := Lib.hid heq
  have hm3 : ms.length ≤ 3 := by omega
  clear hr hc hc' hok heq
  go_enter Try.func56, Try.ntmps56
  go_wp2_with fail
  generalize World.alloc w _ = W at HB0 HX0 ⊢
  go_loopw [3, 9] (fun s i wr => ∃ k : Nat, k ≤ ns.length ∧ i = .int .i64 k ∧ s = .string (txtTo ns ms k) ∧ Below W.heap.size W wr) (fun _ i _ => ns.length - (intOf i).toNat)
  case atStart => exact ⟨0, Nat.zero_le _, rfl, rfl, Below.refl _ _⟩
  case round =>
    obtain ⟨k, hk, rfl, rfl, hb⟩ := hrel
    have hbw := below_next HB0.out hb
    have hX := HX0.out.next hb
    by_cases hlt : k < ns.length
    · have hke : k < ms.length := by have := HE.out; omega
      have n0 := (hbw.cell (p := ⟨b, o + k, none⟩) hbl).trans (HN.out k hlt)
      have m0 := (hbw.cell (p := ⟨b', o' + k, none⟩) hbl').trans (HM.out k hke)
      obtain ⟨j1, j2⟩ := HO.out.mks k hke
      obtain ⟨n, hn⟩ : ∃ n : Nat, it ms k = (n : Int) := ⟨_, (Int.toNat_of_nonneg j1).symm⟩
      have hw : wordT ns ms k = it ns k ++ sgn n := by rw [wordT, hn]; rfl
      rw [hn] at m0 j2
      have hn4 : n < 4 := by omega
      have x1 := hX.c1
      have hs1 := (HO.out.nm k hlt).hi
      have hs2 := sgn_size n
      have hs3 := txtTo_size ns ms HO.out k hk
      have q1 : (0 : Int) ≤ (k : Int) := by omega
      have q2 : (k : Int) < (ns.length : Int) := by omega
      have q3 : (k : Int) < (ms.length : Int) := by omega
      have q4 : (n : Int) < 4 := by omega
      have hbx := hX.lt
      have hbb := Nat.lt_of_lt_of_le hbl hbw.size
      have hbb' := Nat.lt_of_lt_of_le hbl' hbw.size
      have HB := Lib.hid hb
      have HX := Lib.hid hX
      have HW := Lib.hid hw
      clear hb hX hw hbw hn
      rcases Nat.eq_zero_or_pos k with hz | hz
      · have hz' : (k : Int) ≤ 0 := by omega
        have HZ := Lib.hid hz
        clear hz
        go_wp2
        go_region_with (go_at_call 77; (with_reducible refine (itSigns_any _).mono ?_); rintro e w1 ⟨⟨g, rfl, hg⟩, hb1⟩; have x1' := (hb1.cell (p := ⟨w.heap.size, 1, none⟩) hbx).trans x1; have m1 := (hb1.cell (p := ⟨b', o' + k, none⟩) hbb').trans m0; have s1 := hg n hn4)
        all_goals
          have HB1 := Lib.hid (HB.out.trans ((Below.refl _ _).drew.trans (hb1.mono (by exact HB.out.size))))
          clear hb1 hg
          go_simp
          go_wp2
          go_roundw
          case rel => exact ⟨k + 1, by omega, by go_num, by rw [txtTo, HW.out, if_pos HZ.out, HZ.out]; rfl, HB1.out⟩
          case measure => simp [intOf]; omega
      · have hz' : (0 : Int) < (k : Int) := by omega
        have HZ := Lib.hid hz
        clear hz
        go_wp2
        go_region_with (go_at_call 77; (with_reducible refine (itSigns_any _).mono ?_); rintro e w1 ⟨⟨g, rfl, hg⟩, hb1⟩; have x1' := (hb1.cell (p := ⟨w.heap.size, 1, none⟩) hbx).trans x1; have m1 := (hb1.cell (p := ⟨b', o' + k, none⟩) hbb').trans m0; have s1 := hg n hn4)
        all_goals
          have HB1 := Lib.hid (HB.out.trans ((Below.refl _ _).drew.trans (hb1.mono (by exact HB.out.size))))
          clear hb1 hg
          go_simp
          go_wp2
          go_roundw
          case rel => exact ⟨k + 1, by omega, by go_num, by rw [txtTo, HW.out, if_neg (Nat.pos_iff_ne_zero.1 HZ.out)], HB1.out⟩
          case measure => simp [intOf]; omega
    · obtain rfl : k = ns.length := by omega
      have x2 := hX.c2
      have HW := Lib.hid hbw
      clear hb hbw hX
      simp only at x2
      cases lt
      · go_wp2
        go_ret
        exact ⟨rfl, HW.out⟩
      · have hs3 := txtTo_size ns ms HO.out ns.length hk
        go_wp2
        go_ret
        exact ⟨rfl, HW.out⟩
end Go.Proofs.Ytjnimmjlmfhpdaa
