/- namesWhere of the program: the places where a function says yes; caOpen of the model. -/
import Derived.Test.YtbhfhjhegcfdkaaShR
import Derived.Test.YtbhfhjhegcfdkaaShO
namespace Go.Proofs.Ytbhfhjhegcfdkaa
open Go.ChangeShapes Go.WideShapes Go.ChangeAt Go.RowKit Go.Lib Go.Proofs
set_option linter.unusedVariables false

theorem Try.infoRwI : (Try.prog.info? 54).map (fun i => (i.zero, i.size, i.bytes)) = some (some (.slice none 0 0), 1, 24) := by kernel_rfl
theorem one_slice {W : World} {b : Nat} {v : Value} (h : W.cell? ⟨b, 0, none⟩ = some v) : ∀ j u, ([v] : List Value)[j]? = some u → W.cell? ((⟨b, 0, none⟩ : Addr).add j) = some u := fun j u hj => by
  match j, hj with
  | 0, hj => obtain rfl := Option.some.inj hj; exact h
theorem one_sliceC (A : Option Addr) (n c : Nat) : ∀ u ∈ [Value.slice A n c], u.oneCell' = true := fun u hu => by
  obtain rfl : u = Value.slice A n c := by simpa using hu
  rfl
/-- How many names the items have. -/
def nmN (xs : List Im) (i : Nat) : Nat := (it xs i).ns.length
/-- The call of a function value with a place: its answer. -/
def Asks (G : Nat) (ps : Array Value) (xs : List Im) (D : Nat → Nat → Bool) (w : World) : Prop :=
  ∀ W', Below w.heap.size w W' → ∀ i j, i < xs.length → j < nmN xs i → Calls Try.prog G (#[.int .i64 (i : Int), .int .i64 (j : Int)] ++ ps) W' fun e w' => e = .returned (.bool (D i j)) ∧ Below W'.heap.size W' w'
set_option maxHeartbeats 8000000 in
set_option maxRecDepth 100000 in
theorem namesWhere_any (P : Option Addr) (c : Nat) (xs : List Im) (G : Nat) (ps : Array Value) (D : Nat → Nat → Bool) (w : World) (hr : Ims w w.heap.size P xs) (hok : ListOk xs)
    (eG : ∀ args w, (callFunc G args).run Try.prog w = .ok (.enter G args) w) (hD : Asks G ps xs D w) :
    Calls Try.prog 45 #[.slice P xs.length c, .func (.func G) #[] ps] w fun e w' => (∃ y : Rw (Rw Int), e = .returned (.slice y.A y.xs.length y.c) ∧ y.xs.length = (plI (nmN xs) D xs.length).length ∧ (∀ k, k < (plI (nmN xs) D xs.length).length → (it y.xs k).xs = it (plI (nmN xs) D xs.length) k) ∧ Nst.Own (iv w.heap.size w'.heap.size) w' y) ∧ Below w.heap.size w w' := by
  obtain ⟨i0, hi, hz0, hz1, hz2⟩ := info_parts Try.infoRwI
  have HZ := Lib.hid (And.intro hi (And.intro hz0 (And.intro hz1 hz2)))
  have HR := Lib.hid hr
  have HK := Lib.hid hok
  have HD := Lib.hid hD
  have h14 := hok.len
  have HN3 := Lib.hid (show ∀ k, k < xs.length → nmN xs k ≤ 3 from fun k hk => (hok.each k hk).hi)
  clear hr hok hD hi hz0 hz1 hz2
  go_enter Try.func45, Try.ntmps45
  go_wp2
  go_loopw [5, 11] (fun v p wr => ∃ (i : Nat) (ys : List (Rw Int)) (s : Nat → Nat), i ≤ xs.length ∧ p = .int .i64 i ∧ Hid (NAp w wr v (plI (nmN xs) D i) ys s) ∧ Hid (Below w.heap.size w wr)) (fun _ p _ => xs.length - (intOf p).toNat)
  case atStart => exact ⟨0, [], fun _ => 0, Nat.zero_le _, rfl, Lib.hid (NAp.zero w w), Lib.hid (Below.refl _ _)⟩
  case round =>
    obtain ⟨i, ys, s, hk, rfl, HA, HB⟩ := hrel
    by_cases hlt : i < xs.length
    · obtain ⟨b, o, rfl, hbl, hc⟩ := HR.out.out.im (by omega)
      obtain ⟨c0, c1, c2⟩ := (hc i hlt).below HB.out hbl
      have hn3 := HN3.out i hlt
      have HNN := Lib.hid (show nmN xs i = (it xs i).ns.length from rfl)
      clear hc
      go_wp2_with fail
      clear c0 c1 c2
      have hb3 := below_alloc wr (.cells #[.slice (it xs i).A (it xs i).ns.length (it xs i).c, .slice (it xs i).L (it xs i).ms.length (it xs i).d, .bool (it xs i).late] 56)
      generalize World.alloc wr _ = w3 at hb3 ⊢
      have HB3 := Lib.hid (below_next HB.out hb3)
      have HA3 := Lib.hid (show NAp w w3 _ (plI (nmN xs) D i ++ plJ D i 0) ys s by rw [show plJ D i 0 = [] from rfl, List.append_nil]; exact HA.out.next hb3)
      clear hb3
      rw [← HNN.out]
      go_loopw [5, 19] (fun v p wr => ∃ (j : Nat) (ys : List (Rw Int)) (s : Nat → Nat), j ≤ nmN xs i ∧ p = .int .i64 j ∧ Hid (NAp w wr v (plI (nmN xs) D i ++ plJ D i j) ys s) ∧ Hid (Below w.heap.size w wr)) (fun _ p _ => nmN xs i - (intOf p).toNat)
      case atStart => exact ⟨0, ys, s, Nat.zero_le _, rfl, HA3, HB3⟩
      case round =>
        obtain ⟨j, ys, s, hj, rfl, HJ, HBJ⟩ := hrel
        by_cases hjl : j < nmN xs i
        · have HC := Lib.hid (HD.out wr HBJ.out i j hlt hjl)
          have hbd := plI_len (n := nmN xs) (D := D) i (fun k hk => HN3.out k (by omega))
          have hbd2 := plJ_len D i j
          have HLN := Lib.hid HJ.out.len
          have HPL := Lib.hid (show (plI (nmN xs) D i ++ plJ D i j).length ≤ 60 by rw [List.length_append]; omega)
          cases hq : D i j
          · rw [hq] at HC
            have HP := Lib.hid (plJ_no hq)
            clear hq hbd hbd2
            go_wp2_with (go_at_fn G; refine HC.out.mono ?_; rintro e w4 ⟨rfl, hb4⟩; have HB4 := Lib.hid (below_next HBJ.out hb4); have HJ4 := Lib.hid (HJ.out.next hb4); clear hb4)
            go_roundw
            case rel => exact ⟨j + 1, ys, s, by omega, by go_num, by rw [HP.out]; exact HJ4, HB4⟩
            case measure => simp [intOf]; omega
          · rw [hq] at HC
            have HP := Lib.hid (plJ_yes hq)
            clear hq hbd hbd2
            go_wp2_with (first
              | (go_at_fn G; refine HC.out.mono ?_; rintro e w4 ⟨rfl, hb4⟩; have HB4 := Lib.hid (below_next HBJ.out hb4); have HJ4 := Lib.hid (HJ.out.next hb4); clear hb4)
              | (at_builtin; refine wpList_append_src _ rfl (.tmp 26) (.tmp 30) 44 rfl w.heap.size 54 i0 (.slice none 0 0) 24 Try.underlying44 HZ.out.1 HZ.out.2.1 HZ.out.2.2.1 HZ.out.2.2.2 rfl _ ys.length (ys.flatMap Flat.cells) rfl ((HJ4.out.row.alloc _).alloc _) (some ⟨w4.heap.size + 1, 0, none⟩) 1 1 [.slice (some ⟨w4.heap.size, 0, none⟩) 2 2] rfl rfl (fun _ => ⟨_, rfl, one_slice (by simp)⟩) (one_sliceC _ _ _) (by have := HLN.out; have := HPL.out; unfold maxLen; omega) (by have := HLN.out; have := HPL.out; omega) (by have := HB4.out.size; simp; omega) ?_; intro v1 w6 hown hgrow hat))
            have hps := HJ4.out.push HB4.out hown hgrow (by
              rcases hat with h | h
              · exact .inl h
              · exact .inr (by rw [h]; simp))
            have HPS := Lib.hid hps.1
            have HB6 := Lib.hid hps.2
            clear hown hgrow hat hps
            go_roundw
            case rel => exact ⟨j + 1, _, _, by omega, by go_num, by rw [HP.out, ← List.append_assoc]; exact HPS, HB6⟩
            case measure => simp [intOf]; omega
        · obtain rfl : j = nmN xs i := by omega
          go_wp2
          go_roundw
          case rel => exact ⟨i + 1, ys, s, by omega, by go_num, HJ, HBJ⟩
          case measure => simp [intOf]; omega
    · obtain rfl : i = xs.length := by omega
      obtain ⟨y, rfl, h1, h2, h3⟩ := HA.out.done
      have H1 := Lib.hid (And.intro h1 (And.intro h2 h3))
      clear h1 h2 h3
      go_wp2
      go_ret
      exact ⟨⟨y, rfl, H1.out.1, H1.out.2.1, H1.out.2.2⟩, HB.out⟩
end Go.Proofs.Ytbhfhjhegcfdkaa
