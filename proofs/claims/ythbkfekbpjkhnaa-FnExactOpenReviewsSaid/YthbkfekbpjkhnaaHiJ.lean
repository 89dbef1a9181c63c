/- The model's state of items with open reviews: a change of it. -/
import Derived.Test.YthbkfekbpjkhnaaHiI
import Derived.Deep.RegionHeld3
namespace Go.Proofs.Ythbkfekbpjkhnaa
open Go.ChangeShapes Go.WideShapes Go.ChangeAt Go.RowKit Go.Lib Go.Proofs Go.PlainAid
set_option linter.unusedVariables false

theorem setM_cells (y : Im) (j : Nat) (v : Int) : Flat.cells (setM y j v) = Flat.cells y := by
  show Im.cs _ = Im.cs _
  simp [Im.cs, setM]
theorem ImsOwn.putMs {S : Nat → Prop} {w : World} {P : Option Addr} {g : Nat} {G : Nat → Nat} {ys : List Im} (h : ImsOwn S w P g G ys) (k : Nat) (hk : k < ys.length) (j : Nat) (hj : j < (it ys k).ms.length) (b o : Nat) (hL : (it ys k).L = some ⟨b, o, none⟩) (v : Int) :
    ImsOwn S (w.setCell ⟨b, o + j, none⟩ (.int .i64 v)) P g G (ys.set k (setM (it ys k) j v)) := by
  obtain ⟨b', o', e1, e2, hlt, hO⟩ := h.ms k hk (by omega)
  rw [hL] at e1
  injection e1 with e1
  injection e1 with e3 e4
  subst e3 e4
  have ho : Only (fun i => i = G (2 * k + 1)) w (w.setCell ⟨b, o + j, none⟩ (.int .i64 v)) := Only.put (Only.refl _ w) b _ e2 _
  have hG : ∀ a, a ≠ 2 * k + 1 → a < 2 * ys.length → G a ≠ G (2 * k + 1) := fun a hne ha => by
    rcases Nat.lt_or_gt_of_ne hne with q | q
    · exact h.inj a _ q (by omega)
    · exact fun e => h.inj _ a q ha e.symm
  have hout := h.out.keep ho (fun i q1 q2 => h.ne (2 * k + 1) (by omega) (q2.symm.trans q1))
  refine ⟨fun hp => ?_, fun i hi => ?_, fun i hi => ?_, fun i hi => h.ne i (by simpa using hi), fun i m him hm => h.inj i m him (by simpa using hm), fun _ => h.sg (by omega), fun i hi => h.sG i (by simpa using hi)⟩
  · obtain ⟨g1, o1, q1, q2, q3, q4⟩ := hout (by omega)
    refine ⟨g1, o1, q1, q2, q3, q4.alike (by rw [List.length_set]) (fun i hi => ?_)⟩
    rw [it_set _ _ _ _ hk]
    by_cases e : i = k
    · rw [if_pos e, e, setM_cells]
    · rw [if_neg e]
  · rw [List.length_set] at hi
    rw [it_set _ _ _ _ hk]
    have := (h.ns i hi).keep ho (fun a q1 q2 => hG (2 * i) (by omega) (by omega) (q1.symm.trans q2))
    by_cases e : i = k
    · subst e
      rw [if_pos rfl]
      exact this
    · rw [if_neg e]
      exact this
  · rw [List.length_set] at hi
    rw [it_set _ _ _ _ hk]
    by_cases e : i = k
    · subst e
      rw [if_pos rfl]
      refine fun _ => ⟨b, o, hL, e2, Nat.lt_of_lt_of_le hlt ho.size, ?_⟩
      exact hO.putInt j v hj
    · rw [if_neg e]
      exact (h.ms i hi).keep ho (fun a q1 q2 => hG (2 * i + 1) (by omega) (by omega) (q1.symm.trans q2))

section
variable {B0 : Nat} {w : World} {bx : Nat} {R : Option Addr} {d g : Nat} {G : Nat → Nat} {ys : List Im} {v : Value} {T : Nat → Nat} {os : List (Rw Bool)}
theorem HiSt.flag (h : HiSt B0 w bx R d g G ys v T os) (i n : Nat) (hi : i < os.length) (hn : n < (it os i).xs.length) (b : Bool) : HiSt B0 (w.setCell ⟨T i, n, none⟩ (.bool b)) bx R d g G ys v T (os.set i (setFl (it os i) n b)) := by
  have hT := h.op.lo i hi
  have ho : Only (fun q => q = T i) w (w.setCell ⟨T i, n, none⟩ (.bool b)) := Only.setCell (S := fun q => q = T i) (Only.refl _ w) (p := ⟨T i, n, none⟩) rfl _
  have hbx := ho.block bx h.hi (fun e => by omega)
  exact ⟨(World.cell?_of_block (a := ⟨bx, 0, none⟩) hbx).trans h.c0, (World.cell?_of_block (a := ⟨bx, 1, none⟩) hbx).trans h.c1, fun k => (World.frozen?_of_block (a := ⟨bx, k, none⟩) hbx).trans (h.fr k), h.its.keep ho (fun q hq e => by have := hq.2; omega), h.op.put i n hi hn b, h.lo, by have := h.hi; simpa [World.setCell] using this⟩
theorem HiSt.mark (h : HiSt B0 w bx R d g G ys v T os) (i n : Nat) (hi : i < ys.length) (hn : n < (it ys i).ms.length) (b o : Nat) (hL : (it ys i).L = some ⟨b, o, none⟩) (m : Int) : HiSt B0 (w.setCell ⟨b, o + n, none⟩ (.int .i64 m)) bx R d g G (ys.set i (setM (it ys i) n m)) v T os := by
  obtain ⟨b', o', e1, e2, hlt, hO⟩ := h.its.ms i hi (by omega)
  rw [hL] at e1
  injection e1 with e1
  injection e1 with e3 e4
  subst e3 e4
  have hbb := (h.its.sG (2 * i + 1) (by omega)).2
  rw [← e2] at hbb
  have ho : Only (fun q => q = b) w (w.setCell ⟨b, o + n, none⟩ (.int .i64 m)) := Only.setCell (S := fun q => q = b) (Only.refl _ w) (p := ⟨b, o + n, none⟩) rfl _
  have hbx := ho.block bx h.hi (fun e => by omega)
  exact ⟨by rw [List.length_set]; exact (World.cell?_of_block (a := ⟨bx, 0, none⟩) hbx).trans h.c0, (World.cell?_of_block (a := ⟨bx, 1, none⟩) hbx).trans h.c1, fun k => (World.frozen?_of_block (a := ⟨bx, k, none⟩) hbx).trans (h.fr k), h.its.putMs i hi n hn b o hL m, h.op.low _ (by show b < bx + 1; omega) _, h.lo, by have := h.hi; simpa [World.setCell] using this⟩
/-- What lies where, of a name. -/
structure HiAt (w : World) (bx : Nat) (ys : List Im) (os : List (Rw Bool)) (i n b o gv : Nat) (V : Option Addr) (T : Nat → Nat) : Prop where
  L : (it ys i).L = some ⟨b, o, none⟩
  ol : b < bx
  mm : w.cell? ⟨b, o + n, none⟩ = some (.int .i64 (it (it ys i).ms n))
  mf : w.frozen? ⟨b, o + n, none⟩ = false
  V : V = some ⟨gv, 0, none⟩
  ov : w.cell? ⟨gv, i, none⟩ = some (.slice (some ⟨T i, 0, none⟩) (it os i).xs.length (it os i).c)
  fl : w.cell? ⟨T i, n, none⟩ = some (.bool (it (it os i).xs n))
  ff : w.frozen? ⟨T i, n, none⟩ = false
  tl : bx < T i
  gl : gv < w.heap.size
  th : T i < w.heap.size
  bl : bx < w.heap.size
theorem HiSt.spot {V : Option Addr} {cv : Nat} {xs : List Im} {hs : List Cg} {k i n : Nat} (h : HiSt B0 w bx R d g G ys (.slice V os.length cv) T os) (hI : StIs xs hs k ys os) (hi : i < xs.length) (hn : n < (it xs i).ns.length) : ∃ b o gv, HiAt w bx ys os i n b o gv V T := by
  have hl := hI.len
  have ho := hI.ol
  have hml := hI.ml i hi
  have hrl := hI.rl i hi
  obtain ⟨b, o, e1, e2, hlt, hO⟩ := h.its.ms i (by omega) (by omega)
  obtain ⟨V', c', hv, hV⟩ := h.op.form
  injection hv with hv1 hv2 hv3
  subst hv1
  obtain ⟨gv, q1, q2, q3, q4⟩ := hV (by omega)
  have hbb := (h.its.sG (2 * i + 1) (by omega)).2
  rw [← e2] at hbb
  have hi1 := hO.int n (by omega)
  have hr := q4.rw0 i (by omega)
  have hf := (h.op.each i (by omega)).bool0 n (by omega)
  have ha := h.op.adr i (by omega)
  have hc := hr.c0
  rw [ha] at hc
  exact ⟨b, o, gv, e1, hbb, hi1.1, hi1.2, q1, hc, hf.1, hf.2, by have := h.op.lo i (by omega); omega, q3, h.op.hi i (by omega), h.hi⟩
end
set_option maxRecDepth 100000 in
set_option maxHeartbeats 1000000 in
theorem hiName_any (P : Option Addr) (c : Nat) (xs ys : List Im) (i n : Int) (w : World) (hs : ∀ k, k < xs.length → (it ys k).ns = (it xs k).ns) (hy : ys.length = xs.length) (hr : Ims w w.heap.size P ys) (h14 : xs.length ≤ 14) (h3 : ∀ k, k < xs.length → (it xs k).ns.length ≤ 3) :
    Calls Try.prog 64 #[.slice P ys.length c, .int .i64 i, .int .i64 n] w fun e w' => e = .returned (.bool (pB (NmAt xs i n))) ∧ w' = w := by
  have HR := Lib.hid hr
  have HN := Lib.hid hs
  have HY := Lib.hid hy
  rw [hy]
  clear hr hs hy
  by_cases h0 : 0 ≤ i ∧ i < (xs.length : Int)
  rotate_left
  · have HV := Lib.hid (pB_no (fun hh : NmAt xs i n => h0 ⟨hh.i0, hh.i1⟩))
    have HW := Lib.hid (fun W => l1In_no i 0 ((xs.length : Int) - 1) W (fun q => h0 ⟨q.1, by have := q.2; omega⟩))
    clear h0
    go_enter Try.func64, Try.ntmps64
    go_wp2_with (go_at_call 53; with_reducible refine (HW.out _).mono ?_; rintro e w2 ⟨rfl, rfl⟩)
    go_ret
    exact ⟨by rw [HV.out]; rfl, rfl⟩
  obtain ⟨k, rfl⟩ : ∃ k : Nat, i = (k : Int) := ⟨i.toNat, by omega⟩
  have hk : k < xs.length := by omega
  have hk0 : (0 : Int) ≤ (k : Int) := by omega
  have hk1 : (k : Int) < (xs.length : Int) := by omega
  have hkn := h3 k hk
  obtain ⟨b, o, rfl, hbl, hc⟩ := HR.out.out.im (by have := HY.out; omega)
  obtain ⟨c0, c1, c2⟩ := hc k (by have := HY.out; omega)
  rw [show (it ys k).ns.length = (it xs k).ns.length by rw [HN.out k hk]] at c0
  have HW := Lib.hid (fun W => l1In_yes (k : Int) 0 ((xs.length : Int) - 1) W (by omega) (by omega))
  clear h0 hc c1 c2 h3
  by_cases h2 : 0 ≤ n ∧ n < ((it xs k).ns.length : Int)
  · have HV := Lib.hid (pB_yes (⟨by omega, by omega, h2.1, by simpa using h2.2⟩ : NmAt xs k n))
    have HW2 := Lib.hid (fun W => l1In_yes n 0 (((it xs k).ns.length : Int) - 1) W h2.1 (by omega))
    clear h2
    go_enter Try.func64, Try.ntmps64
    go_wp2_with (first | (go_at_call 53; with_reducible refine (HW.out _).mono ?_; rintro e w2 ⟨rfl, rfl⟩) | (go_at_call 53; with_reducible refine (HW2.out _).mono ?_; rintro e w3 ⟨rfl, rfl⟩))
    go_ret
    exact ⟨by rw [HV.out]; first | rfl | (simp; done) | (simp; omega), rfl⟩
  · have HV := Lib.hid (pB_no (fun hh : NmAt xs k n => h2 ⟨hh.n0, by have := hh.n1; simpa using this⟩))
    have HW2 := Lib.hid (fun W => l1In_no n 0 (((it xs k).ns.length : Int) - 1) W (fun q => h2 ⟨q.1, by have := q.2; omega⟩))
    clear h2
    go_enter Try.func64, Try.ntmps64
    go_wp2_with (first | (go_at_call 53; with_reducible refine (HW.out _).mono ?_; rintro e w2 ⟨rfl, rfl⟩) | (go_at_call 53; with_reducible refine (HW2.out _).mono ?_; rintro e w3 ⟨rfl, rfl⟩))
    go_ret
    exact ⟨by rw [HV.out]; first | rfl | (simp; done) | (simp; omega), rfl⟩
end Go.Proofs.Ythbkfekbpjkhnaa
