/- SwapJudges: rows whose numbers are exchanged in place. -/
import Derived.Test.YtfeffkjmjkddnaaMrU
import Derived.Deep.Cut
namespace Go.Proofs.Ytfeffkjmjkddnaa
open Go.ChangeShapes Go.WideShapes Go.ChangeAt Go.RowKit Go.Lib Go.Proofs Go.PlainAid
set_option linter.unusedVariables false

def swpL (a b : Nat) (l : List Int) : List Int := (l.set a (it l b)).set b (it l a)
theorem swpL_len (a b : Nat) (l : List Int) : (swpL a b l).length = l.length := by simp [swpL]
/-- Rows of which the first k are swapped. -/
def swpQ (q : Rw (Rw Int)) (a b k : Nat) : Rw (Rw Int) := ⟨q.A, q.c, (List.range q.xs.length).map fun i => if i < k then ⟨(it q.xs i).A, (it q.xs i).c, swpL a b (it q.xs i).xs⟩ else it q.xs i⟩
theorem swpQ_len (q : Rw (Rw Int)) (a b k : Nat) : (swpQ q a b k).xs.length = q.xs.length := by simp [swpQ]
theorem swpQ_it (q : Rw (Rw Int)) (a b k i : Nat) (hi : i < q.xs.length) : it (swpQ q a b k).xs i = if i < k then ⟨(it q.xs i).A, (it q.xs i).c, swpL a b (it q.xs i).xs⟩ else it q.xs i := by
  conv => lhs; unfold it swpQ
  simp [hi]
theorem swpQ_0 (q : Rw (Rw Int)) (a b : Nat) : swpQ q a b 0 = q := by
  have h : (swpQ q a b 0).xs = q.xs := it_ext _ _ (swpQ_len q a b 0) (fun i hi => by
    rw [swpQ_len] at hi
    rw [swpQ_it q a b 0 i hi, if_neg (by omega)])
  obtain ⟨A, c, xs⟩ := q
  show (⟨A, c, _⟩ : Rw (Rw Int)) = _
  congr 1
theorem swpQ_ctt (q : Rw (Rw Int)) (a b k : Nat) (hk : q.xs.length ≤ k) : ctt (swpQ q a b k) = (ctt q).map (swpL a b) := by
  refine it_ext _ _ (by rw [ctt_len, swpQ_len, List.length_map, ctt_len]) (fun i hi => ?_)
  rw [ctt_len, swpQ_len] at hi
  rw [ctt_it, swpQ_it q a b k i hi, if_pos (by omega), mapL_it _ _ _ (by rw [ctt_len]; exact hi), ctt_it]
theorem swpQ_more (q : Rw (Rw Int)) (a b : Nat) {k m : Nat} (hk : q.xs.length ≤ k) (hm : q.xs.length ≤ m) : swpQ q a b k = swpQ q a b m := by
  have h : (swpQ q a b k).xs = (swpQ q a b m).xs := it_ext _ _ (by rw [swpQ_len, swpQ_len]) (fun i hi => by
    rw [swpQ_len] at hi
    rw [swpQ_it q a b k i hi, swpQ_it q a b m i hi, if_pos (by omega), if_pos (by omega)])
  show (⟨q.A, q.c, (swpQ q a b k).xs⟩ : Rw (Rw Int)) = ⟨q.A, q.c, (swpQ q a b m).xs⟩
  rw [h]
theorem own_setRow {U : Nat → Prop} {w w' : World} {q : Rw (Rw Int)} (h : Nst.Own U w q) (i : Nat) (hi : i < q.xs.length) (l : List Int) (hl : l.length = (it q.xs i).xs.length) {b o : Nat} (hA : (it q.xs i).A = some ⟨b, o, none⟩) (hp : 0 < (it q.xs i).xs.length) (hn : Only (fun k => k = b) w w') (hO : OwnAt w' b o l) :
    Nst.Own U w' ⟨q.A, q.c, q.xs.set i ⟨(it q.xs i).A, (it q.xs i).c, l⟩⟩ := by
  obtain ⟨g, T, h⟩ := h
  have hR : Owned (T i) w (it q.xs i).A (it q.xs i).xs := h.each i hi
  obtain ⟨b2, o2, hb, hTb, hbl, hOA⟩ := hR hp
  rw [hA] at hb
  injection hb with hb
  injection hb with hb1 hb2
  subst hb1 hb2
  have hbg : b ≠ g := fun e => h.ne i hi (e ▸ hTb)
  have hlen : (q.xs.set i ⟨(it q.xs i).A, (it q.xs i).c, l⟩).length = q.xs.length := List.length_set
  have hit : ∀ k, it (q.xs.set i ⟨(it q.xs i).A, (it q.xs i).c, l⟩) k = if k = i then ⟨(it q.xs i).A, (it q.xs i).c, l⟩ else it q.xs k := fun k => it_set _ _ _ _ hi
  refine ⟨g, T, fun hpos => ?_, fun k hk => ?_, fun k hk => h.ne k (by rw [← hlen]; exact hk), fun k l x hkl hl => h.inj k l x hkl (by rw [← hlen]; exact hl), fun hp => h.sg (by rw [← hlen]; exact hp), fun k x hk => h.sT k x (by rw [← hlen]; exact hk)⟩
  · obtain ⟨g', oo, hA', rfl, hgs, hout⟩ := h.out (by rw [← hlen]; exact hpos)
    refine ⟨g', oo, hA', rfl, Nat.lt_of_lt_of_le hgs hn.size, (hout.block (hn.block _ hgs (fun e => hbg e.symm))).alike hlen (fun k hk => ?_)⟩
    show Flat.cells (it (q.xs.set i _) k) = _
    rw [hit]
    by_cases e : k = i
    · rw [if_pos e, e]
      show [Value.slice _ _ _] = [Value.slice _ _ _]
      rw [hl]
    · rw [if_neg e]
  · have hk' : k < q.xs.length := by rw [← hlen]; exact hk
    show Nst.Own (T k) w' (it (q.xs.set i _) k)
    rw [hit]
    by_cases e : k = i
    · rw [if_pos e, e]
      intro _
      exact ⟨b, o, hA, hTb, Nat.lt_of_lt_of_le hbl hn.size, hO⟩
    · rw [if_neg e]
      refine Nst.own_keep (h.each k hk') hn (fun x hx ex => ?_)
      subst ex
      rcases Nat.lt_or_gt_of_ne e with hlt | hlt
      · exact h.inj k i x hlt hi hx hTb
      · exact h.inj i k x hlt hk' hTb hx
theorem swpQ_set (q : Rw (Rw Int)) (a b k : Nat) (hk : k < q.xs.length) : (⟨q.A, q.c, (swpQ q a b k).xs.set k ⟨(it q.xs k).A, (it q.xs k).c, swpL a b (it q.xs k).xs⟩⟩ : Rw (Rw Int)) = swpQ q a b (k + 1) := by
  have h : (swpQ q a b k).xs.set k ⟨(it q.xs k).A, (it q.xs k).c, swpL a b (it q.xs k).xs⟩ = (swpQ q a b (k + 1)).xs := it_ext _ _ (by rw [List.length_set, swpQ_len, swpQ_len]) (fun i hi => by
    rw [List.length_set, swpQ_len] at hi
    rw [it_set _ _ _ _ (by rw [swpQ_len]; exact hk), swpQ_it q a b (k + 1) i hi]
    by_cases e : i = k
    · rw [if_pos e, if_pos (by omega), e]
    · rw [if_neg e, swpQ_it q a b k i hi]
      by_cases h2 : i < k
      · rw [if_pos h2, if_pos (by omega)]
      · rw [if_neg h2, if_neg (by omega)])
  rw [h]
  rfl
/-- What the exchange of two numbers of a row asks and leaves. -/
structure SwpAt (U : Nat → Prop) (w : World) (q : Rw (Rw Int)) (a b k : Nat) (g o : Nat) : Prop where
  A : (it q.xs k).A = some ⟨g, o, none⟩
  ca : w.cell? ⟨g, o + a, none⟩ = some (.int .i64 (it (it q.xs k).xs a))
  fa : w.frozen? ⟨g, o + a, none⟩ = false
  cb : w.cell? ⟨g, o + b, none⟩ = some (.int .i64 (it (it q.xs k).xs b))
  cb2 : (w.setCell ⟨g, o + a, none⟩ (.int .i64 (it (it q.xs k).xs b))).cell? ⟨g, o + b, none⟩ = some (.int .i64 (it ((it q.xs k).xs.set a (it (it q.xs k).xs b)) b))
  fb2 : (w.setCell ⟨g, o + a, none⟩ (.int .i64 (it (it q.xs k).xs b))).frozen? ⟨g, o + b, none⟩ = false
  mem : U g
  only : Only (fun i => i = g) w ((w.setCell ⟨g, o + a, none⟩ (.int .i64 (it (it q.xs k).xs b))).setCell ⟨g, o + b, none⟩ (.int .i64 (it (it q.xs k).xs a)))
  own : Nst.Own U ((w.setCell ⟨g, o + a, none⟩ (.int .i64 (it (it q.xs k).xs b))).setCell ⟨g, o + b, none⟩ (.int .i64 (it (it q.xs k).xs a))) (swpQ q a b (k + 1))
theorem own_swap {U : Nat → Prop} {w : World} {q : Rw (Rw Int)} {a b k : Nat} (h : Nst.Own U w (swpQ q a b k)) (hk : k < q.xs.length) (ha : a < (it q.xs k).xs.length) (hb : b < (it q.xs k).xs.length) : ∃ g o, SwpAt U w q a b k g o := by
  have h0 := h
  obtain ⟨gg, T, h1⟩ := h
  have hR : Owned (T k) w (it (swpQ q a b k).xs k).A (it (swpQ q a b k).xs k).xs := h1.each k (by rw [swpQ_len]; exact hk)
  have hsT := h1.sT k
  rw [swpQ_it q a b k k hk, if_neg (by omega)] at hR
  obtain ⟨g, o, hA, hT, hgl, hO⟩ := hR (by omega)
  obtain ⟨ca, fa⟩ := hO.int a ha
  obtain ⟨cb, fb⟩ := hO.int b hb
  have hO2 := hO.putInt a (it (it q.xs k).xs b) ha
  obtain ⟨cb2, fb2⟩ := hO2.int b (by rw [List.length_set]; exact hb)
  have hO3 := hO2.putInt b (it (it q.xs k).xs a) (by rw [List.length_set]; exact hb)
  have hon : Only (fun i => i = g) w ((w.setCell ⟨g, o + a, none⟩ (.int .i64 (it (it q.xs k).xs b))).setCell ⟨g, o + b, none⟩ (.int .i64 (it (it q.xs k).xs a))) := (only_cell w g (o + a) _).trans (only_cell _ g (o + b) _)
  refine ⟨g, o, hA, ca, fa, cb, cb2, fb2, hsT g (by rw [swpQ_len]; exact hk) hT, hon, ?_⟩
  have h3 := own_setRow h0 k (by rw [swpQ_len]; exact hk) (swpL a b (it q.xs k).xs) (by rw [swpL_len, swpQ_it q a b k k hk, if_neg (by omega)]) (b := g) (o := o) (by rw [swpQ_it q a b k k hk, if_neg (by omega)]; exact hA) (by rw [swpQ_it q a b k k hk, if_neg (by omega)]; omega) hon hO3
  rw [swpQ_it q a b k k hk, if_neg (by omega)] at h3
  rw [← swpQ_set q a b k hk]
  exact h3
structure SwOk (g c : List (List Int)) (a b : Int) : Prop where
  a : MkHas g c a
  b : MkHas g c b
noncomputable def swG (g c : List (List Int)) (a b : Int) : List (List Int) := pIf (SwOk g c a b) (g.map (swpL a.toNat b.toNat)) []
noncomputable def swC (g c : List (List Int)) (a b : Int) : List (List Int) := pIf (SwOk g c a b) (c.map (swpL a.toNat b.toNat)) []
theorem sw_no {g c : List (List Int)} {a b : Int} (h : ¬ SwOk g c a b) : swG g c a b = [] ∧ swC g c a b = [] := ⟨pIf_no h, pIf_no h⟩
theorem sw_yes {g c : List (List Int)} {a b : Int} (h : SwOk g c a b) : swG g c a b = g.map (swpL a.toNat b.toNat) ∧ swC g c a b = c.map (swpL a.toNat b.toNat) := ⟨pIf_yes h, pIf_yes h⟩
theorem swp_rows {Q : Int → Prop} {J a b : Nat} {g : List (List Int)} (h : RowsV Q J g) : RowsV (fun _ => True) J (g.map (swpL a b)) := fun i hi => by
  rw [List.length_map] at hi
  rw [mapL_it _ _ _ hi]
  exact ⟨by rw [swpL_len, (h i hi).len], fun _ _ => trivial⟩
theorem sw_fits {g c : List (List Int)} {a b : Int} {y : Mr} (h : ctt y.G = swG g c a b) (k : ctt y.C = swC g c a b) : MrFits y := by
  by_cases q : SwOk g c a b
  · rw [(sw_yes q).1] at h
    rw [(sw_yes q).2] at k
    have h9 := q.a.ok.j9
    have hf := q.a.ok.few
    have ht := q.a.ok.three
    refine ⟨rows_fit (Q := fun _ => True) (J := jgs c) ?_ (by omega) ?_, rows_fit (Q := fun _ => True) (J := jgs c) ?_ (by omega) ?_⟩
    · rw [h]
      exact swp_rows q.a.ok.gs
    · rw [← ctt_len, h, List.length_map]
      omega
    · rw [k]
      exact swp_rows q.a.ok.cs
    · rw [← ctt_len, k, List.length_map]
      omega
  · rw [(sw_no q).1] at h
    rw [(sw_no q).2] at k
    exact ⟨nil_fit h, nil_fit k⟩
end Go.Proofs.Ytfeffkjmjkddnaa
