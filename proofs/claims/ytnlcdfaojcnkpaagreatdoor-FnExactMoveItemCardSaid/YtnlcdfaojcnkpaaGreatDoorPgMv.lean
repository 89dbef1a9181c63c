/- A programme in another order is one, when its second half is made late. -/
import Derived.Test.YtnlcdfaojcnkpaaGreatDoorPgIm
namespace Go.Proofs.YtnlcdfaojcnkpaaGreatDoor
open Go.ChangeShapes Go.WideShapes Go.ChangeAt Go.RowKit Go.PlainAid
set_option linter.unusedVariables false

/-- Names and marks. -/
def key (y : Im) : List ByteArray × List Int := (y.ns, y.ms)
def keys (xs : List Im) : List (List ByteArray × List Int) := xs.map key
theorem sum_to (xs : List Im) (f : Im → Nat) (F : Nat → Nat) (h0 : F 0 = 0) (hs : ∀ k, k < xs.length → F (k + 1) = F k + f (it xs k)) : ∀ k, k ≤ xs.length → F k = ((xs.take k).map f).sum
  | 0, _ => by rw [h0]; rfl
  | k + 1, hk => by
    rw [hs k (by omega), sum_to xs f F h0 hs k (by omega), List.take_add_one, it_get xs k (by omega), List.map_append, List.sum_append]
    simp
theorem sum_of (xs : List Im) (f : Im → Nat) (F : Nat → Nat) (h0 : F 0 = 0) (hs : ∀ k, k < xs.length → F (k + 1) = F k + f (it xs k)) : F xs.length = (xs.map f).sum := by
  rw [sum_to xs f F h0 hs xs.length (Nat.le_refl _), List.take_length]
theorem sum_keys {xs ys : List Im} (h : (keys xs).Perm (keys ys)) (g : List ByteArray × List Int → Nat) : (xs.map (fun y => g (key y))).sum = (ys.map (fun y => g (key y))).sum := by
  have := (h.map g).sum_nat
  unfold keys at this
  rw [List.map_map, List.map_map] at this
  exact this
theorem all_keys {xs ys : List Im} (h : (keys xs).Perm (keys ys)) (p : List ByteArray × List Int → Prop) (k : ∀ i, i < xs.length → p (key (it xs i))) : ∀ i, i < ys.length → p (key (it ys i)) := fun i hi => by
  have hm : key (it ys i) ∈ keys ys := List.mem_map.2 ⟨it ys i, mem_it.2 ⟨i, hi, rfl⟩, rfl⟩
  obtain ⟨z, hz, e⟩ := List.mem_map.1 (h.mem_iff.2 hm)
  obtain ⟨j, hj, rfl⟩ := mem_it.1 hz
  rw [← e]
  exact k j hj
theorem len_keys {xs ys : List Im} (h : (keys xs).Perm (keys ys)) : ys.length = xs.length := by
  have := h.length_eq
  unfold keys at this
  simpa using this.symm
theorem cntW_sum (m : Nat) (xs : List Im) : cntW m xs xs.length = (xs.map (fun y => if m < (key y).1.length then 1 else 0)).sum :=
  sum_of xs (fun y => if m < (key y).1.length then 1 else 0) (cntW m xs) rfl (fun k hk => by
    by_cases h : m < (it xs k).ns.length
    · rw [cntW_yes h]; simp [key, h]
    · rw [cntW_no h]; simp [key, h])
theorem timN_sum (s : ByteArray) (xs : List Im) : timN s xs xs.length = (xs.map (fun y => timI s (key y).1 (key y).1.length)).sum :=
  sum_of xs (fun y => timI s (key y).1 (key y).1.length) (timN s xs) rfl (fun k hk => rfl)
theorem comN_sum (s : ByteArray) (xs : List Im) : comN s xs xs.length = (xs.map (fun y => comI s (key y).1 (key y).1.length)).sum :=
  sum_of xs (fun y => comI s (key y).1 (key y).1.length) (comN s xs) rfl (fun k hk => rfl)
theorem it_bump (l : List Int) (n f : Nat) (hn : n < l.length) : it (bump l n) f = if f = n then it l n + 1 else it l f := by
  unfold bump
  rw [it_set _ _ _ _ hn]
theorem cntG_sum {x : Cd} (hx : CdOk x) (xs : List Im) (f : Nat) (hf : f < 5) : it (cntG x xs xs.length) f = (((xs.map (fun y => if famI x (it (key y).1 0) = (f : Int) then 1 else 0)).sum : Nat) : Int) := by
  have h0 : it (cntG x xs 0) f = 0 := by
    have := small_cntG x xs 0 f (by rw [cntG_len]; exact hf)
    omega
  have hp : ∀ k, 0 ≤ it (cntG x xs k) f := fun k => (small_cntG x xs k f (by rw [cntG_len]; exact hf)).1
  have := sum_of xs (fun y => if famI x (it (key y).1 0) = (f : Int) then 1 else 0) (fun k => (it (cntG x xs k) f).toNat) (by show (it (cntG x xs 0) f).toNat = 0; rw [h0]; rfl) (fun k hk => by
    show (it (cntG x xs (k + 1)) f).toNat = (it (cntG x xs k) f).toNat + (if famI x (it (it xs k).ns 0) = (f : Int) then 1 else 0)
    have hk0 := hp k
    rcases famI_ok hx (nam0 xs k) with ⟨h1, h2⟩ | ⟨h1, h2, h3⟩
    · rw [cntG_no h2, if_neg (show ¬ famI x (it (it xs k).ns 0) = (f : Int) by have : famI x (it (it xs k).ns 0) = -1 := h1; omega)]
      rfl
    · rw [cntG_yes h3, it_bump _ _ _ (by rw [cntG_len]; omega)]
      by_cases e : f = (famI x (nam0 xs k)).toNat
      · rw [if_pos e, if_pos (show famI x (it (it xs k).ns 0) = (f : Int) by have : famI x (it (it xs k).ns 0) = famI x (nam0 xs k) := rfl; omega), ← e]
        omega
      · rw [if_neg e, if_neg (show ¬ famI x (it (it xs k).ns 0) = (f : Int) by have : famI x (it (it xs k).ns 0) = famI x (nam0 xs k) := rfl; omega)]
        rfl)
  have hn := hp xs.length
  omega
theorem listOk_keys {xs ys : List Im} (h : (keys xs).Perm (keys ys)) (k : ListOk xs) : ListOk ys :=
  ⟨by rw [len_keys h]; exact k.len, all_keys h (fun a => ItOk a.1 a.2) k.each⟩
theorem allNames_keys {xs ys : List Im} (h : (keys xs).Perm (keys ys)) {Q : List ByteArray → ByteArray → Prop} (k : AllNames xs Q) : AllNames ys Q :=
  all_keys h (fun a => ∀ j, j < a.1.length → Q a.1 (it a.1 j)) k
/-- The rules but the last one don't look at the order or at who is late. -/
theorem ruleP_keys {x : Cd} (hx : CdOk x) {xs ys : List Im} (h : (keys xs).Perm (keys ys)) (j : Nat) (hj : j < 7) (k : RuleP x xs (j + 1)) : RuleP x ys (j + 1) := by
  have hc : j = 0 ∨ j = 1 ∨ j = 2 ∨ j = 3 ∨ j = 4 ∨ j = 5 ∨ j = 6 := by omega
  rcases hc with rfl | rfl | rfl | rfl | rfl | rfl | rfl
  · show 0 < ys.length
    rw [len_keys h]
    exact k
  · exact allNames_keys h (Q := fun _ n => Known x n) k
  · exact all_keys h (fun a => ∀ i, i < a.2.length → it a.2 i = 0) k
  · exact allNames_keys h (Q := Jump x) k
  · show cntW 1 ys ys.length ≤ 3 ∧ cntW 2 ys ys.length ≤ 1
    have k' : cntW 1 xs xs.length ≤ 3 ∧ cntW 2 xs xs.length ≤ 1 := k
    rw [cntW_sum, cntW_sum, sum_keys h (fun a => if 1 < a.1.length then 1 else 0), sum_keys h (fun a => if 2 < a.1.length then 1 else 0)] at k'
    rw [cntW_sum, cntW_sum]
    exact k'
  · intro f hf
    have k' := k f hf
    rw [cntG_sum hx xs f hf, sum_keys h (fun a => if famI x (it a.1 0) = (f : Int) then 1 else 0)] at k'
    rw [cntG_sum hx ys f hf]
    exact k'
  · have hs : ∀ n, Seldom x xs n → Seldom x ys n := fun n q => by
      unfold Seldom at q ⊢
      rw [timN_sum, comN_sum, sum_keys h (fun a => timI n a.1 a.1.length), sum_keys h (fun a => comI n a.1 a.1.length)] at q
      rw [timN_sum, comN_sum]
      exact q
    have k' : AllNames xs (fun _ n => Seldom x ys n) := fun i hi j hj => hs _ (k i hi j hj)
    exact allNames_keys h (Q := fun _ n => Seldom x ys n) k'
theorem keys_late (zs : List Im) : keys (lateS zs) = keys zs := by
  unfold keys
  apply List.ext_getElem
  · rw [List.length_map, List.length_map, lateS_len]
  · intro i h1 h2
    simp [lateS, lateIm, key]
/-- An item moved. -/
def mv (xs : List Im) (k j : Nat) : List Im := ins (xs.eraseIdx k) j (it xs k)
theorem mv_len (xs : List Im) (k j : Nat) (hk : k < xs.length) (hj : j < xs.length) : (mv xs k j).length = xs.length := by
  unfold mv
  rw [ins_len _ _ _ (by rw [erase_len xs k hk]; omega), erase_len xs k hk]
  omega
theorem mv_perm (xs : List Im) (k j : Nat) (hk : k < xs.length) : xs.Perm (mv xs k j) := by
  unfold mv ins
  refine List.Perm.trans ?_ List.perm_middle.symm
  rw [List.take_append_drop]
  have e : it xs k = xs[k] := by
    have := it_get xs k hk
    rw [List.getElem?_eq_getElem hk] at this
    exact (Option.some.inj this).symm
  rw [e]
  have e2 : xs = xs.take k ++ xs[k] :: xs.drop (k + 1) := by
    rw [← List.drop_eq_getElem_cons hk, List.take_append_drop]
  rw [List.eraseIdx_eq_take_drop_succ]
  have := (List.perm_middle (a := xs[k]) (l₁ := xs.take k) (l₂ := xs.drop (k + 1)))
  rw [← e2] at this
  exact this
theorem mv_ok {x : Cd} {xs : List Im} (h : PgOk x xs) (k j : Nat) (hk : k < xs.length) : PgOk x (lateS (mv xs k j)) := by
  have hp : (keys xs).Perm (keys (lateS (mv xs k j))) := by
    rw [keys_late]
    exact (mv_perm xs k j hk).map key
  refine ⟨⟨h.ask.cd, listOk_keys hp h.ask.ls⟩, fun i hi => ?_⟩
  by_cases h7 : i < 7
  · exact ruleP_keys h.ask.cd hp i h7 (h.all i hi)
  · obtain rfl : i = 7 := by omega
    show ∀ i, i < (lateS (mv xs k j)).length → (it (lateS (mv xs k j)) i).late = decide ((lateS (mv xs k j)).length ≤ 2 * i)
    intro i hi
    rw [lateS_len] at hi ⊢
    rw [lateS_it _ i hi]
    rfl
end Go.Proofs.YtnlcdfaojcnkpaaGreatDoor
