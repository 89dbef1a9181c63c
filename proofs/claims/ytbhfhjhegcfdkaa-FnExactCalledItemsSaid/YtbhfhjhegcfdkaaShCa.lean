/- The items with the calls as their marks. -/
import Derived.Test.YtbhfhjhegcfdkaaShW
import Derived.Test.YtbhfhjhegcfdkaaPgNc
namespace Go.Proofs.Ytbhfhjhegcfdkaa
open Go.ChangeShapes Go.WideShapes Go.ChangeAt Go.RowKit Go.Lib Go.Proofs
set_option linter.unusedVariables false

def clMs (x : Sh) (i : Nat) : List Int := (List.range (nmN x.l i)).map fun j => caI x i j
def clIm (x : Sh) (i : Nat) : Im := ⟨none, 0, none, 0, (it x.l i).ns, clMs x i, (it x.l i).late⟩
def clLs (x : Sh) : List Im := (List.range x.l.length).map (clIm x)
theorem clMs_len (x : Sh) (i : Nat) : (clMs x i).length = nmN x.l i := by simp [clMs]
theorem clMs_it (x : Sh) (i p : Nat) (hp : p < nmN x.l i) : it (clMs x i) p = caI x i p := by
  unfold it clMs
  simp [hp]
theorem clLs_len (x : Sh) : (clLs x).length = x.l.length := by simp [clLs]
theorem clLs_it (x : Sh) (i : Nat) (hi : i < x.l.length) : it (clLs x) i = clIm x i := by
  unfold it clLs
  simp [hi]
/-- An item with one more mark. -/
def setMs (y : Im) (j : Nat) (v : Int) : Im := ⟨y.A, y.c, y.L, y.d, y.ns, y.ms.set j v, y.late⟩
structure ClTo (x : Sh) (ys : List Im) (k j : Nat) : Prop where
  len : ys.length = x.l.length
  ns : ∀ i, i < x.l.length → (it ys i).ns = (it x.l i).ns
  late : ∀ i, i < x.l.length → (it ys i).late = (it x.l i).late
  ml : ∀ i, i < x.l.length → (it ys i).ms.length = nmN x.l i
  ms : ∀ i p, i < x.l.length → p < nmN x.l i → (i < k ∨ i = k ∧ p < j) → it (it ys i).ms p = caI x i p
theorem ClTo.row {x : Sh} {ys : List Im} {k : Nat} (h : ClTo x ys k (nmN x.l k)) : ClTo x ys (k + 1) 0 :=
  ⟨h.len, h.ns, h.late, h.ml, fun i p hi hp hq => h.ms i p hi hp (by
    rcases Nat.lt_or_ge i k with g | g
    · exact .inl g
    · obtain rfl : i = k := by omega
      exact .inr ⟨rfl, hp⟩)⟩
theorem ClTo.put {x : Sh} {ys : List Im} {k j : Nat} (h : ClTo x ys k j) (hk : k < x.l.length) (hj : j < nmN x.l k) : ClTo x (ys.set k (setMs (it ys k) j (caI x k j))) k (j + 1) := by
  have hl := h.len
  have hm := h.ml k hk
  refine ⟨by rw [List.length_set]; exact h.len, fun i hi => ?_, fun i hi => ?_, fun i hi => ?_, fun i p hi hp hq => ?_⟩
  all_goals rw [it_set _ _ _ _ (by omega)]
  · by_cases e : i = k
    · rw [if_pos e, e]
      exact h.ns k hk
    · rw [if_neg e]
      exact h.ns i hi
  · by_cases e : i = k
    · rw [if_pos e, e]
      exact h.late k hk
    · rw [if_neg e]
      exact h.late i hi
  · by_cases e : i = k
    · rw [if_pos e, e]
      show ((it ys k).ms.set j _).length = _
      rw [List.length_set]
      exact hm
    · rw [if_neg e]
      exact h.ml i hi
  · by_cases e : i = k
    · subst e
      rw [if_pos rfl]
      show it ((it ys i).ms.set j _) p = _
      rw [it_set _ _ _ _ (by omega)]
      by_cases e2 : p = j
      · rw [if_pos e2, e2]
      · rw [if_neg e2]
        exact h.ms i p hi hp (by omega)
    · rw [if_neg e]
      exact h.ms i p hi hp (by omega)
theorem ClTo.done {x : Sh} {ys : List Im} (h : ClTo x ys x.l.length 0) : SameS (clLs x) ys := by
  refine ⟨by rw [clLs_len]; exact h.len, fun i hi => ?_⟩
  rw [clLs_len] at hi
  rw [clLs_it x i hi]
  refine ⟨h.ns i hi, it_ext _ _ (by rw [h.ml i hi]; exact (clMs_len x i).symm) (fun p hp => ?_), h.late i hi⟩
  rw [h.ml i hi] at hp
  rw [h.ms i p hi hp (.inl hi)]
  exact (clMs_it x i p hp).symm
theorem ClTo.own {x : Sh} {ys : List Im} (hok : ShOk x) (h : SameS x.l ys) : ClTo x ys 0 0 :=
  ⟨h.len, fun i hi => (h.each i hi).ns, fun i hi => (h.each i hi).late, fun i hi => by rw [(h.each i hi).ms]; exact (hok.ls.each i hi).eq, fun i p _ _ hq => absurd hq (by omega)⟩
theorem ClTo.cln {x : Sh} {ys : List Im} (hok : ShOk x) (h : SameS (clnF x.l) ys) : ClTo x ys 0 0 := by
  rw [clnF_yes hok.ls] at h
  have hl : ys.length = x.l.length := by rw [h.len, List.length_map]
  have he : ∀ i, i < x.l.length → Same (clnIm (it x.l i)) (it ys i) := fun i hi => by
    have := h.each i (by rw [List.length_map]; exact hi)
    rwa [cln_it x.l i hi] at this
  exact ⟨hl, fun i hi => (he i hi).ns, fun i hi => (he i hi).late, fun i hi => by rw [(he i hi).ms]; exact zer_len _, fun i p _ _ hq => absurd hq (by omega)⟩
theorem OwnAt.sameIm {w : World} {g o : Nat} {ys zs : List Im} (h : OwnAt w g o ys) (hl : zs.length = ys.length) (he : ∀ i, i < ys.length → Flat.cells (it zs i) = Flat.cells (it ys i)) : OwnAt w g o zs := h.alike hl he
theorem setMs_cells (y : Im) (j : Nat) (v : Int) : Flat.cells (setMs y j v) = Flat.cells y := by
  show Im.cs _ = Im.cs _
  simp [Im.cs, setMs]
theorem ImsOwn.putMs {S : Nat → Prop} {w : World} {P : Option Addr} {g : Nat} {G : Nat → Nat} {ys : List Im} (h : ImsOwn S w P g G ys) (k : Nat) (hk : k < ys.length) (j : Nat) (hj : j < (it ys k).ms.length) (b o : Nat) (hL : (it ys k).L = some ⟨b, o, none⟩) (v : Int) :
    ImsOwn S (w.setCell ⟨b, o + j, none⟩ (.int .i64 v)) P g G (ys.set k (setMs (it ys k) j v)) := by
  obtain ⟨b', o', e1, e2, hlt, hO⟩ := h.ms k hk (by omega)
  rw [hL] at e1
  injection e1 with e1
  injection e1 with e3 e4
  subst e3 e4
  have ho : Only (fun i => i = G (2 * k + 1)) w (w.setCell ⟨b, o + j, none⟩ (.int .i64 v)) := Only.put (Only.refl _ w) b _ e2 _
  have hG : ∀ a, a ≠ 2 * k + 1 → a < 2 * ys.length → G a ≠ G (2 * k + 1) := fun a hne ha => by
    rcases Nat.lt_or_gt_of_ne hne with q | q
    · exact h.inj a _ q (by omega)
    · exact fun e => h.inj _ a q ha e.symm
  have hout := h.out.keep ho (fun i q1 q2 => h.ne (2 * k + 1) (by omega) (q2.symm.trans q1))
  refine ⟨fun hp => ?_, fun i hi => ?_, fun i hi => ?_, fun i hi => h.ne i (by simpa using hi), fun i m him hm => h.inj i m him (by simpa using hm), fun _ => h.sg (by omega), fun i hi => h.sG i (by simpa using hi)⟩
  · obtain ⟨g1, o1, q1, q2, q3, q4⟩ := hout (by omega)
    refine ⟨g1, o1, q1, q2, q3, q4.alike (by rw [List.length_set]) (fun i hi => ?_)⟩
    rw [it_set _ _ _ _ hk]
    by_cases e : i = k
    · rw [if_pos e, e, setMs_cells]
    · rw [if_neg e]
  · rw [List.length_set] at hi
    rw [it_set _ _ _ _ hk]
    have := (h.ns i hi).keep ho (fun a q1 q2 => hG (2 * i) (by omega) (by omega) (q1.symm.trans q2))
    by_cases e : i = k
    · subst e
      rw [if_pos rfl]
      exact this
    · rw [if_neg e]
      exact this
  · rw [List.length_set] at hi
    rw [it_set _ _ _ _ hk]
    by_cases e : i = k
    · subst e
      rw [if_pos rfl]
      refine fun _ => ⟨b, o, hL, e2, Nat.lt_of_lt_of_le hlt ho.size, ?_⟩
      exact hO.putInt j v hj
    · rw [if_neg e]
      exact (h.ms i hi).keep ho (fun a q1 q2 => hG (2 * i + 1) (by omega) (by omega) (q1.symm.trans q2))
noncomputable def clF (x : Sh) : List Im := @ite _ (ShOk x ∧ opL x = []) (Classical.propDecidable _) (clLs x) []
noncomputable def clB (x : Sh) : Bool := pB (ShOk x ∧ opL x = [])
theorem clF_yes {x : Sh} (h : ShOk x ∧ opL x = []) : clF x = clLs x := by unfold clF; rw [if_pos h]
theorem clF_no {x : Sh} (h : ¬ (ShOk x ∧ opL x = [])) : clF x = [] := by unfold clF; rw [if_neg h]
theorem clLs_same {x y : Sh} (h : ShSame x y) : SameS (clLs x) (clLs y) := by
  have hl := h.its.len
  refine ⟨by rw [clLs_len, clLs_len, hl], fun i hi => ?_⟩
  rw [clLs_len] at hi
  rw [clLs_it x i hi, clLs_it y i (by omega)]
  have he := h.its.each i hi
  refine ⟨he.ns, ?_, he.late⟩
  show clMs y i = clMs x i
  unfold clMs
  rw [nmN_same h.its hi]
  exact List.map_congr_left fun j _ => caI_same h i j
theorem clP_same {x y : Sh} (h : ShSame x y) : (ShOk x ∧ opL x = []) ↔ (ShOk y ∧ opL y = []) := by
  rw [opL_same h]
  exact ⟨fun k => ⟨k.1.same h, k.2⟩, fun k => ⟨k.1.same h.symm, k.2⟩⟩
theorem clF_same {x y : Sh} (h : ShSame x y) : SameS (clF x) (clF y) := by
  by_cases k : ShOk x ∧ opL x = []
  · rw [clF_yes k, clF_yes ((clP_same h).1 k)]
    exact clLs_same h
  · rw [clF_no k, clF_no (fun q => k ((clP_same h).2 q))]
    exact SameS.refl _
theorem clB_same {x y : Sh} (h : ShSame x y) : clB x = clB y := pB_iff (clP_same h)
theorem clF_fits {x : Sh} (h : ShFits x) : ImsFits (clF x) := by
  by_cases k : ShOk x ∧ opL x = []
  · rw [clF_yes k]
    refine ⟨by rw [clLs_len]; exact h.its.len, fun i hi => ?_⟩
    rw [clLs_len] at hi
    rw [clLs_it x i hi]
    refine ⟨(h.its.each i hi).ns, ?_⟩
    show (clMs x i).length ≤ 1048576
    rw [clMs_len]
    exact (h.its.each i hi).ns.1
  · rw [clF_no k]
    exact ⟨by simp, fun i hi => absurd hi (by simp)⟩
/-- No call is open. -/
theorem opL_none {x : Sh} (hok : ShOk x) (h : opL x = []) (i j : Nat) (hi : i < x.l.length) (hj : j < nmN x.l i) : 0 ≤ caI x i j := by
  rw [opL_yes hok, plI_nil] at h
  have := h i hi j hj
  unfold opD at this
  have := of_decide_eq_false this
  omega
end Go.Proofs.Ytbhfhjhegcfdkaa
