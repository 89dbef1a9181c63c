/- The model's state of items with open reviews: its start. -/
import Derived.Test.YthbkfekbpjkhnaaHiH
import Derived.Test.YthbkfekbpjkhnaaPgNc
import Derived.Deep.RegionHeld3
namespace Go.Proofs.Ythbkfekbpjkhnaa
open Go.ChangeShapes Go.WideShapes Go.ChangeAt Go.RowKit Go.Lib Go.Proofs Go.PlainAid
set_option linter.unusedVariables false

section
variable {P : Program}
/-- make, in a region that draws its order. -/
theorem step_make_full (w : World) {ops : Array Oper} {o : Oper} {a : Act} {K : Act → World → Prop} {Q : Exit → Act → World → Prop} {E : Prop}
    (hg : o.guard = none) (l c : Operand) (t : TypeId) (hop : o.op = Op.makeSlice t l c)
    (base : Nat) (e : TypeId) (i : TypeInfo) (z : Value) (size : Nat) (h1 : P.underlying t = some (.slice e)) (h2 : P.info? e = some i) (h3 : i.zero = some z) (h4 : i.size = size)
    (kl kc : IntKind) (L C : Int) (n : Nat) (hl : a.eval l = .int kl L) (hc : a.eval c = .int kc C) (hL : L = (n : Int)) (hC : C = (n : Int)) (b2 : i.bytes * n ≤ 281474976710656) (b3 : n ≤ maxLen) (b4 : base ≤ w.heap.size)
    (hK : ∀ w', w'.ownsRow base e size (.slice (some ⟨w.heap.size, 0, none⟩) n n) n (madeCells z.cells (n * size)).toList → w.grownBy w' none → K (a.put o.dst (.slice (some ⟨w.heap.size, 0, none⟩) n n)) w') :
    if Region.wanted o (yielded ops a.tmps) = true then Oper.wp P o a w K Q else E := by
  have hw : Region.wanted o (yielded ops a.tmps) = true := by simp [Region.wanted, hg]
  rw [if_pos hw]
  obtain ⟨w', hrun, r1, r2⟩ := run_make_full (P := P) w base t e i z size h1 h2 h3 h4 kl kc n b2 b3 b4
  subst hL
  subst hC
  unfold Oper.wp
  simp [execOp, hop, hl, hc, hrun, Result.andThen]
  exact hK w' r1 r2
end
/-- One row more, and the box says so. -/
theorem HiSt.push {B0 : Nat} {wr w2 w4 : World} {bx : Nat} {R : Option Addr} {d g : Nat} {G : Nat → Nat} {ys : List Im} {v v1 : Value} {T : Nat → Nat} {os : List (Rw Bool)} {l : List Bool} {g1 c : Nat} {ob : Obj} (h : HiSt B0 wr bx R d g G ys v T os) (hb : Below wr.heap.size wr w2) (hg : wr.heap.size ≤ g1) (hg2 : g1 < w2.heap.size) (hO : OwnAt w2 g1 0 l)
    (hown : w4.ownsRow (bx + 1) 85 1 v1 (os.length + 1) (os.flatMap Flat.cells ++ [.slice (some ⟨g1, 0, none⟩) l.length c]))
    (hgrow : (w2.alloc ob).grownBy w4 v.ownBlock) (hat : v1.ownBlock = v.ownBlock ∨ v1.ownBlock = some (w2.heap.size + 1)) :
    (w4.cell? ⟨bx, 1, none⟩ = some v ∧ w4.frozen? ⟨bx, 1, none⟩ = false) ∧ HiSt B0 (w4.setCell ⟨bx, 1, none⟩ v1) bx R d g G ys v1 (fun k => if k = os.length then g1 else T k) (os ++ [⟨some ⟨g1, 0, none⟩, c, l⟩]) ∧ Below B0 wr (w4.setCell ⟨bx, 1, none⟩ v1) := by
  have hlo := h.lo
  have hhi := h.hi
  obtain ⟨hop, honly⟩ := h.op.push (by omega) hb hg hg2 hO hown hgrow hat
  have hv : ∀ m, v.ownBlock = some m → bx + 1 ≤ m := fun m e => (h.op.row.lt m e).1
  have hbx : w4.heap[bx]? = wr.heap[bx]? := honly.block bx hhi (fun e => by have := hv bx e; omega)
  have c0 := (World.cell?_of_block (a := ⟨bx, 0, none⟩) hbx).trans h.c0
  have c1 := (World.cell?_of_block (a := ⟨bx, 1, none⟩) hbx).trans h.c1
  have cf := fun k => (World.frozen?_of_block (a := ⟨bx, k, none⟩) hbx).trans (h.fr k)
  have ho2 : Only (fun i => i = bx) w4 (w4.setCell ⟨bx, 1, none⟩ v1) := Only.setCell (S := fun i => i = bx) (Only.refl _ w4) (p := ⟨bx, 1, none⟩) rfl _
  have hi1 : ImsOwn (iv B0 bx) w4 R g G ys := h.its.keep honly (fun i hi e => by have := hv i e; have := hi.2; omega)
  refine ⟨⟨c1, cf 1⟩, ⟨(World.cell?_setCell_other _ _ _ _ (by simp)).trans c0, World.cell?_setCell_same' _ _ _ (by rw [c1]; rfl), fun k => by rw [World.frozen?_setCell]; exact cf k, hi1.keep ho2 (fun i hi e => by have := hi.2; omega), hop.low _ (Nat.lt_succ_self _) _, hlo, by have := honly.size; simp [World.setCell]; omega⟩, ?_⟩
  exact (honly.below (B := B0) (by omega) (fun k e => by have := hv k e; omega)).trans (ho2.below (by have := honly.size; omega) (fun k e => by omega))
theorem flag_src {W : World} {b : Nat} {u : Value} (h : W.cell? ⟨b, 0, none⟩ = some u) : ∀ j v, [u][j]? = some v → W.cell? ((⟨b, 0, none⟩ : Addr).add j) = some v := fun j v hj => by
  match j, hj with
  | 0, hj => obtain rfl := Option.some.inj hj; exact h
theorem rep_flat (n : Nat) : ((List.replicate n false).flatMap (Flat.cells (α := Bool))) = List.replicate n (Value.bool false) := by
  induction n with
  | zero => rfl
  | succ n ih =>
    rw [List.replicate_succ, List.flatMap_cons, ih, List.replicate_succ]
    rfl
/-- The state at the start has no open review. -/
structure NoFl (xs : List Im) (k : Nat) (os : List (Rw Bool)) : Prop where
  len : os.length = k
  row : ∀ i, i < k → (it os i).xs = List.replicate (it xs i).ns.length false
theorem NoFl.push {xs : List Im} {k : Nat} {os : List (Rw Bool)} (h : NoFl xs k os) (A : Option Addr) (c : Nat) : NoFl xs (k + 1) (os ++ [⟨A, c, List.replicate (it xs k).ns.length false⟩]) :=
  ⟨by simp [h.len], fun i hi => by
    have hl := h.len
    rcases Nat.lt_or_ge i k with q | q
    · rw [it_snoc_lt' (by omega)]
      exact h.row i q
    · obtain rfl : i = os.length := by omega
      rw [it_snoc_eq', hl]⟩
theorem it_rep (n i : Nat) : it (List.replicate n false) i = false := by
  unfold it
  rw [List.getD_eq_getElem?_getD, List.getElem?_replicate]
  split <;> rfl
theorem StIs.start {xs ys : List Im} {os : List (Rw Bool)} (hs : List Cg) (h : SameS xs ys) (hl : ListOk xs) (hn : NoFl xs xs.length os) : StIs xs hs 0 ys os :=
  ⟨h.len, fun i hi => (h.each i hi).ns, fun i hi => (h.each i hi).late, fun i hi => by rw [(h.each i hi).ms]; exact (hl.each i hi).eq, fun i n hi _ => by rw [(h.each i hi).ms, mkS_0]; rfl, hn.len, fun i hi => by rw [hn.row i hi, List.length_replicate], fun i n hi _ => by rw [hn.row i hi, it_rep, opS_0]⟩
theorem made_bool (n : Nat) : (madeCells (Value.bool false).cells (n * 1)).toList = List.replicate n (Value.bool false) := by
  have h := made_flat (α := Bool) #[.bool false] false n rfl (by decide)
  rw [rep_flat] at h
  exact h
set_option maxHeartbeats 8000000 in
set_option maxRecDepth 100000 in
theorem hiStart_any (P : Option Addr) (c : Nat) (xs : List Im) (w : World) (hr : Ims w w.heap.size P xs) (hok : ListOk xs) :
    Calls Try.prog 80 #[.slice P xs.length c] w fun e w' => (∃ bx R d g G ys v T os, e = .returned (.pointer (some ⟨bx, 0, none⟩)) ∧ HiSt w.heap.size w' bx R d g G ys v T os ∧ SameS xs ys ∧ NoFl xs xs.length os) ∧ Below w.heap.size w w' := by
  obtain ⟨ib, hi, hz0, hz1, hz2⟩ := info_parts Try.infoBool
  obtain ⟨ir, gi, gz0, gz1, gz2⟩ := info_parts Try.infoRwB
  have HZB := Lib.hid (And.intro hi (And.intro hz0 (And.intro hz1 hz2)))
  have HZR := Lib.hid (And.intro gi (And.intro gz0 (And.intro gz1 gz2)))
  have HR := Lib.hid hr
  have HK := Lib.hid hok
  have h14 := hok.len
  have HC := Lib.hid (itOwn_any P c xs w hr hok.near)
  clear hr hok hi hz0 hz1 hz2 gi gz0 gz1 gz2
  go_enter Try.func80, Try.ntmps80
  go_wp2_with fail
  refine HC.out.mono ?_
  rintro e w1 ⟨⟨R, d, ys, g, G, rfl, hs, ho⟩, hb1⟩
  have HS := Lib.hid hs
  have HO := Lib.hid ho
  have HB1 := Lib.hid hb1
  clear hs ho hb1 HC
  go_wp2_with fail
  generalize hW0 : World.alloc w1 _ = W0
  have hst : HiSt w.heap.size W0 w1.heap.size R d g G ys (.slice none 0 0) (fun _ => 0) [] := by
    rw [← hW0]
    exact ⟨by simp, by simp, fun k => by simp, HO.out.next (below_alloc _ _), OpAp.zero _ _, HB1.out.size, by simp⟩
  have hb0 : Below w.heap.size w W0 := by
    rw [← hW0]
    exact below_next HB1.out (below_alloc _ _)
  have HST := Lib.hid hst
  have HB0 := Lib.hid hb0
  clear hW0 hst hb0
  generalize hbx : w1.heap.size = bx at HST ⊢
  clear hbx HO HB1
  go_loopw [12] (fun q wr => ∃ (k : Nat) (v : Value) (T : Nat → Nat) (os : List (Rw Bool)), k ≤ xs.length ∧ q = .int .i64 k ∧ Hid (HiSt w.heap.size wr bx R d g G ys v T os) ∧ Hid (NoFl xs k os) ∧ Hid (Below w.heap.size w wr)) (fun q _ => xs.length - (intOf q).toNat)
  case atStart => exact ⟨0, _, _, [], Nat.zero_le _, rfl, HST, Lib.hid ⟨rfl, fun i hi => absurd hi (by omega)⟩, HB0⟩
  case round =>
    obtain ⟨k, v, T, os, hk, rfl, HSr, HN, HB⟩ := hrel
    by_cases hlt : k < xs.length
    · have HRr := Lib.hid (HR.out.next HB.out)
      obtain ⟨b, o, rfl, hbl, hcc⟩ := HRr.out.out.im (by omega)
      obtain ⟨c0, c1, c2⟩ := hcc k hlt
      have hn3 := (HK.out.each k hlt).hi
      clear hcc
      go_wp2_with fail
      clear c0 c1 c2
      generalize hW : World.alloc wr _ = W'
      have hXW : ImBox W' wr.heap.size (it xs k) := by
        rw [← hW]
        exact imBox_new wr _ _
      have hbW : Below wr.heap.size wr W' := by
        rw [← hW]
        exact below_alloc _ _
      clear hW
      have hbd := below_next hbW (below_drew W')
      have HXW' := Lib.hid (hXW.next (below_drew W'))
      clear hXW hbW
      have HXW := HXW'
      have HBW := Lib.hid hbd
      have HSW := Lib.hid (HSr.out.next hbd)
      clear hbd HXW'
      obtain ⟨V, cv, rfl, _⟩ := HSr.out.op.form
      have l1 := HSW.out.c1
      refine wp_region_held_drew (S := fun w' => w'.cell? ⟨wr.heap.size, 0, none⟩ = some (.slice (it xs k).A (it xs k).ns.length (it xs k).c)) (by kernel_rfl) ?_ (fun hHeld0 => ?_)
      · exact HXW.out.c0
      refine wpAnyH_take (i := 0) (oi := _) (v := ?_) rfl (by kernel_rfl) (by kernel_rfl) (by kernel_rfl) (fun _ _ _ h => h) (Or.inl ⟨by rfl, ?_⟩) (by assumption) ?_
      rotate_left
      · (intro w hSw; (try dsimp only at hSw); go_simp; try with_reducible rfl)
      try simp only [Act.put, List.setIfInBounds_toArray, List.set_cons_zero, List.set_cons_succ, List.getElem_toArray, List.getElem_cons_zero]
      refine wpAnyH_take (i := 1) (oi := _) (v := ?_) rfl (by kernel_rfl) (by kernel_rfl) (by kernel_rfl) (fun _ _ _ h => h) (Or.inl ⟨by rfl, ?_⟩) (by assumption) ?_
      rotate_left
      · (intro w hSw; (try dsimp only at hSw); go_simp; try with_reducible rfl)
      try simp only [Act.put, List.setIfInBounds_toArray, List.set_cons_zero, List.set_cons_succ, List.getElem_toArray, List.getElem_cons_zero, List.getElem_cons_succ]
      refine wpAnyH_take (i := 2) (oi := _) (v := ?_) rfl (by kernel_rfl) (by kernel_rfl) (by kernel_rfl) (fun _ _ _ h => h) (Or.inl ⟨by rfl, ?_⟩) (by assumption) ?_
      rotate_left
      · (intro w hSw; (try dsimp only at hSw); go_simp; try with_reducible rfl)
      try simp only [Act.put, List.setIfInBounds_toArray, List.set_cons_zero, List.set_cons_succ, List.getElem_toArray, List.getElem_cons_zero, List.getElem_cons_succ]
      refine wpAnyH_take (i := 3) (oi := _) (v := ?_) rfl (by kernel_rfl) (by kernel_rfl) (by kernel_rfl) (fun _ _ _ h => h) (Or.inl ⟨by rfl, ?_⟩) (by assumption) ?_
      rotate_left
      · (intro w hSw; (try dsimp only at hSw); go_simp; try with_reducible rfl)
      try simp only [Act.put, List.setIfInBounds_toArray, List.set_cons_zero, List.set_cons_succ, List.getElem_toArray, List.getElem_cons_zero, List.getElem_cons_succ]
      refine wpAnyH_take (i := 5) (oi := _) (v := ?_) rfl (by kernel_rfl) (by kernel_rfl) (by kernel_rfl) (fun _ _ _ h => h) (Or.inl ⟨by rfl, ?_⟩) (by assumption) ?_
      rotate_left
      · (intro w hSw; (try dsimp only at hSw); go_simp; try with_reducible rfl)
      try simp only [Act.put, List.setIfInBounds_toArray, List.set_cons_zero, List.set_cons_succ, List.getElem_toArray, List.getElem_cons_zero, List.getElem_cons_succ]
      refine wpAnyH_take (i := 6) (oi := _) (v := ?_) rfl (by kernel_rfl) (by kernel_rfl) (by kernel_rfl) (fun _ _ _ h => h) (Or.inl ⟨by rfl, ?_⟩) (by assumption) ?_
      rotate_left
      · (intro w hSw; (try dsimp only at hSw); go_simp; try with_reducible rfl)
      try simp only [Act.put, List.setIfInBounds_toArray, List.set_cons_zero, List.set_cons_succ, List.getElem_toArray, List.getElem_cons_zero, List.getElem_cons_succ]
      refine wpAnyH_take (i := 7) (oi := _) (v := ?_) rfl (by kernel_rfl) (by kernel_rfl) (by kernel_rfl) (fun _ _ _ h => h) (Or.inl ⟨by rfl, ?_⟩) (by assumption) ?_
      rotate_left
      · (intro w hSw; (try dsimp only at hSw); go_simp; try with_reducible rfl)
      try simp only [Act.put, List.setIfInBounds_toArray, List.set_cons_zero, List.set_cons_succ, List.getElem_toArray, List.getElem_cons_zero, List.getElem_cons_succ]
      refine wpAnyH_ready (rs := [4, 8]) (by kernel_rfl) (by simp) ?_
      refine AllReadyH.cons rfl (fun K hK => ?_) ?_
      · go_simp
        refine hK.out _ _ ?_ (fun _ => ?_)
        · exact HXW.out.c0
        clear hK K
        refine wpAnyH_ready (rs := [8]) (by kernel_rfl) (by simp) ?_
        refine AllReadyH.cons rfl (fun K hK => ?_) ?_
        rotate_left
        · exact AllReadyH.nil
        refine step_make_full _ rfl (.tmp 23) (.tmp 23) 85 rfl W'.heap.size 4 ib (.bool false) 1 Try.underlying85 HZB.out.1 HZB.out.2.1 HZB.out.2.2.1 .i64 .i64 _ _ (it xs k).ns.length rfl rfl rfl rfl (by rw [HZB.out.2.2.2]; omega) (by unfold maxLen; omega) (Nat.le_refl _) ?_
        intro w2 hown2 hgrow2
        have HO2 := Lib.hid (show OwnAt w2 W'.heap.size 0 (List.replicate (it xs k).ns.length false) from own_of_row (α := Bool) (cap := (it xs k).ns.length) (e := 4) (base := W'.heap.size) _ (by rw [rep_flat, List.length_replicate]; have := hown2; rwa [made_bool] at this))
        have hb2 : Below W'.drew.heap.size W'.drew w2 := (Below.refl _ _).grown hgrow2 (Nat.le_refl _) (fun k e => by cases e)
        have hs2 := (hown2.lt W'.heap.size rfl).2
        have HB2 := Lib.hid (below_next HBW.out hb2)
        have HX2 := Lib.hid (HXW.out.next hb2)
        have HS2 := Lib.hid (HSW.out.next hb2)
        have l2 := HS2.out.c1
        clear hown2 hgrow2 hb2
        refine hK.out _ _ ?_ (fun _ => ?_)
        · exact HX2.out.c0
        clear hK K
        refine wpAnyH_ready (rs := [9]) (by kernel_rfl) (by simp) ?_
        refine AllReadyH.cons rfl (fun K hK => ?_) ?_
        rotate_left
        · exact AllReadyH.nil
        go_simp
        refine hK.out _ _ ?_ (fun _ => ?_)
        · exact (imBox_alloc HX2.out _).c0
        clear hK K
        refine wpAnyH_ready (rs := [10]) (by kernel_rfl) (by simp) ?_
        refine AllReadyH.cons rfl (fun K hK => ?_) ?_
        rotate_left
        · exact AllReadyH.nil
        refine step_append_srcN _ (by rfl) (.tmp 20) (.tmp 25) 79 (by rfl) (bx + 1) 85 ir (.slice none 0 0) 1 24 (by decide) Try.underlying79 HZR.out.1 HZR.out.2.1 HZR.out.2.2.1 HZR.out.2.2.2 rfl _ os.length (os.flatMap Flat.cells) (by rfl) (HS2.out.op.row.alloc _) (some ⟨w2.heap.size, 0, none⟩) 1 1 [.slice (some ⟨W'.heap.size, 0, none⟩) (it xs k).ns.length (it xs k).ns.length] (by rfl) rfl (fun _ => ⟨_, rfl, flag_src (by simp)⟩) (fun u hu => by obtain rfl := List.mem_singleton.1 hu; rfl) (by have := HN.out.len; unfold maxLen; omega) (by have := HN.out.len; omega) (by have := HS2.out.hi; simp; omega) ?_
        intro v1 w4 hown hgrow hat
        have hpush := HSr.out.push (w2 := w2) (l := List.replicate (it xs k).ns.length false) (c := (it xs k).ns.length) HB2.out (show wr.heap.size ≤ W'.heap.size from HBW.out.size) hs2 HO2.out (by rw [List.length_replicate]; exact hown) hgrow (by simpa using hat)
        obtain ⟨V1, cv1, hv1, _⟩ := hpush.2.1.op.form
        simp only [List.length_append, List.length_cons, List.length_nil, Nat.zero_add] at hv1
        subst hv1
        have HPU := Lib.hid hpush
        have HX4 := Lib.hid (imBox_grown (imBox_alloc HX2.out _) hgrow (fun m e => (HSr.out.op.row.lt m e).2))
        have HX5 := Lib.hid (fun (u : Value) => (World.cell?_setCell_other w4 ⟨bx, 1, none⟩ ⟨wr.heap.size, 0, none⟩ u (fun e => by have q := congrArg Addr.block e; have := HSr.out.hi; simp at q; omega)).trans HX4.out.c0)
        obtain ⟨p1, p2⟩ := hpush.1
        clear hown hgrow hat hpush
        refine hK.out _ _ ?_ (fun _ => ?_)
        · exact HX4.out.c0
        clear hK K
        refine wpAnyH_take (i := 11) (oi := _) (v := ?_) rfl (by kernel_rfl) (by kernel_rfl) (by kernel_rfl) (fun _ _ _ h => h) (Or.inl ⟨by rfl, ?_⟩) (by assumption) ?_
        rotate_left
        · (intro w hSw; (try dsimp only at hSw); go_simp; try with_reducible rfl)
        try simp only [Act.put, List.setIfInBounds_toArray, List.set_cons_zero, List.set_cons_succ, List.getElem_toArray, List.getElem_cons_zero, List.getElem_cons_succ]
        refine wpAnyH_take (i := 12) (oi := _) (v := ?_) rfl (by kernel_rfl) (by kernel_rfl) (by kernel_rfl) (fun _ _ _ h => h) (Or.inl ⟨by rfl, ?_⟩) (by assumption) ?_
        rotate_left
        · (intro w hSw; (try dsimp only at hSw); go_simp; try with_reducible rfl)
        try simp only [Act.put, List.setIfInBounds_toArray, List.set_cons_zero, List.set_cons_succ, List.getElem_toArray, List.getElem_cons_zero, List.getElem_cons_succ]
        refine wpAnyH_ready (rs := [13]) (by kernel_rfl) (by simp) ?_
        refine AllReadyH.cons rfl (fun K hK => ?_) ?_
        rotate_left
        · exact AllReadyH.nil
        go_simp
        refine hK.out _ _ ?_ (fun _ => ?_)
        · exact HX5.out _
        clear hK K
        refine wpAnyH_done (by kernel_rfl) ?_ _
        clear p1 p2
        have HNF := Lib.hid (HN.out.push (some ⟨W'.heap.size, 0, none⟩) (it xs k).ns.length)
        go_wp2
        go_roundw
        case rel => exact ⟨k + 1, _, _, _, by omega, by go_num, Lib.hid HPU.out.2.1, HNF, Lib.hid (HB.out.trans HPU.out.2.2)⟩
        case measure => simp [intOf]; omega
      refine AllReadyH.cons rfl (fun K hK => ?_) ?_
      · refine step_make_full _ rfl (.tmp 23) (.tmp 23) 85 rfl W'.heap.size 4 ib (.bool false) 1 Try.underlying85 HZB.out.1 HZB.out.2.1 HZB.out.2.2.1 .i64 .i64 _ _ (it xs k).ns.length rfl rfl rfl rfl (by rw [HZB.out.2.2.2]; omega) (by unfold maxLen; omega) (Nat.le_refl _) ?_
        intro w2 hown2 hgrow2
        have HO2 := Lib.hid (show OwnAt w2 W'.heap.size 0 (List.replicate (it xs k).ns.length false) from own_of_row (α := Bool) (cap := (it xs k).ns.length) (e := 4) (base := W'.heap.size) _ (by rw [rep_flat, List.length_replicate]; have := hown2; rwa [made_bool] at this))
        have hb2 : Below W'.drew.heap.size W'.drew w2 := (Below.refl _ _).grown hgrow2 (Nat.le_refl _) (fun k e => by cases e)
        have hs2 := (hown2.lt W'.heap.size rfl).2
        have HB2 := Lib.hid (below_next HBW.out hb2)
        have HX2 := Lib.hid (HXW.out.next hb2)
        have HS2 := Lib.hid (HSW.out.next hb2)
        have l2 := HS2.out.c1
        clear hown2 hgrow2 hb2
        refine hK.out _ _ ?_ (fun _ => ?_)
        · exact HX2.out.c0
        clear hK K
        refine wpAnyH_ready (rs := [4, 9]) (by kernel_rfl) (by simp) ?_
        refine AllReadyH.cons rfl (fun K hK => ?_) ?_
        · go_simp
          refine hK.out _ _ ?_ (fun _ => ?_)
          · exact HX2.out.c0
          clear hK K
          refine wpAnyH_ready (rs := [9]) (by kernel_rfl) (by simp) ?_
          refine AllReadyH.cons rfl (fun K hK => ?_) ?_
          rotate_left
          · exact AllReadyH.nil
          go_simp
          refine hK.out _ _ ?_ (fun _ => ?_)
          · exact (imBox_alloc HX2.out _).c0
          clear hK K
          refine wpAnyH_ready (rs := [10]) (by kernel_rfl) (by simp) ?_
          refine AllReadyH.cons rfl (fun K hK => ?_) ?_
          rotate_left
          · exact AllReadyH.nil
          refine step_append_srcN _ (by rfl) (.tmp 20) (.tmp 25) 79 (by rfl) (bx + 1) 85 ir (.slice none 0 0) 1 24 (by decide) Try.underlying79 HZR.out.1 HZR.out.2.1 HZR.out.2.2.1 HZR.out.2.2.2 rfl _ os.length (os.flatMap Flat.cells) (by rfl) (HS2.out.op.row.alloc _) (some ⟨w2.heap.size, 0, none⟩) 1 1 [.slice (some ⟨W'.heap.size, 0, none⟩) (it xs k).ns.length (it xs k).ns.length] (by rfl) rfl (fun _ => ⟨_, rfl, flag_src (by simp)⟩) (fun u hu => by obtain rfl := List.mem_singleton.1 hu; rfl) (by have := HN.out.len; unfold maxLen; omega) (by have := HN.out.len; omega) (by have := HS2.out.hi; simp; omega) ?_
          intro v1 w4 hown hgrow hat
          have hpush := HSr.out.push (w2 := w2) (l := List.replicate (it xs k).ns.length false) (c := (it xs k).ns.length) HB2.out (show wr.heap.size ≤ W'.heap.size from HBW.out.size) hs2 HO2.out (by rw [List.length_replicate]; exact hown) hgrow (by simpa using hat)
          obtain ⟨V1, cv1, hv1, _⟩ := hpush.2.1.op.form
          simp only [List.length_append, List.length_cons, List.length_nil, Nat.zero_add] at hv1
          subst hv1
          have HPU := Lib.hid hpush
          have HX4 := Lib.hid (imBox_grown (imBox_alloc HX2.out _) hgrow (fun m e => (HSr.out.op.row.lt m e).2))
          have HX5 := Lib.hid (fun (u : Value) => (World.cell?_setCell_other w4 ⟨bx, 1, none⟩ ⟨wr.heap.size, 0, none⟩ u (fun e => by have q := congrArg Addr.block e; have := HSr.out.hi; simp at q; omega)).trans HX4.out.c0)
          obtain ⟨p1, p2⟩ := hpush.1
          clear hown hgrow hat hpush
          refine hK.out _ _ ?_ (fun _ => ?_)
          · exact HX4.out.c0
          clear hK K
          refine wpAnyH_take (i := 11) (oi := _) (v := ?_) rfl (by kernel_rfl) (by kernel_rfl) (by kernel_rfl) (fun _ _ _ h => h) (Or.inl ⟨by rfl, ?_⟩) (by assumption) ?_
          rotate_left
          · (intro w hSw; (try dsimp only at hSw); go_simp; try with_reducible rfl)
          try simp only [Act.put, List.setIfInBounds_toArray, List.set_cons_zero, List.set_cons_succ, List.getElem_toArray, List.getElem_cons_zero, List.getElem_cons_succ]
          refine wpAnyH_take (i := 12) (oi := _) (v := ?_) rfl (by kernel_rfl) (by kernel_rfl) (by kernel_rfl) (fun _ _ _ h => h) (Or.inl ⟨by rfl, ?_⟩) (by assumption) ?_
          rotate_left
          · (intro w hSw; (try dsimp only at hSw); go_simp; try with_reducible rfl)
          try simp only [Act.put, List.setIfInBounds_toArray, List.set_cons_zero, List.set_cons_succ, List.getElem_toArray, List.getElem_cons_zero, List.getElem_cons_succ]
          refine wpAnyH_ready (rs := [13]) (by kernel_rfl) (by simp) ?_
          refine AllReadyH.cons rfl (fun K hK => ?_) ?_
          rotate_left
          · exact AllReadyH.nil
          go_simp
          refine hK.out _ _ ?_ (fun _ => ?_)
          · exact HX5.out _
          clear hK K
          refine wpAnyH_done (by kernel_rfl) ?_ _
          clear p1 p2
          have HNF := Lib.hid (HN.out.push (some ⟨W'.heap.size, 0, none⟩) (it xs k).ns.length)
          go_wp2
          go_roundw
          case rel => exact ⟨k + 1, _, _, _, by omega, by go_num, Lib.hid HPU.out.2.1, HNF, Lib.hid (HB.out.trans HPU.out.2.2)⟩
          case measure => simp [intOf]; omega
        refine AllReadyH.cons rfl (fun K hK => ?_) ?_
        · go_simp
          refine hK.out _ _ ?_ (fun _ => ?_)
          · exact (imBox_alloc HX2.out _).c0
          clear hK K
          have l3 := HS2.out.next (below_alloc w2 (.cells #[.slice (some ⟨W'.heap.size, 0, none⟩) (it xs k).ns.length (it xs k).ns.length] 85))
          have l3 := l3.c1
          refine wpAnyH_ready (rs := [4]) (by kernel_rfl) (by simp) ?_
          refine AllReadyH.cons rfl (fun K hK => ?_) ?_
          rotate_left
          · exact AllReadyH.nil
          go_simp
          refine hK.out _ _ ?_ (fun _ => ?_)
          · exact (imBox_alloc HX2.out _).c0
          clear hK K
          refine wpAnyH_ready (rs := [10]) (by kernel_rfl) (by simp) ?_
          refine AllReadyH.cons rfl (fun K hK => ?_) ?_
          rotate_left
          · exact AllReadyH.nil
          refine step_append_srcN _ (by rfl) (.tmp 20) (.tmp 25) 79 (by rfl) (bx + 1) 85 ir (.slice none 0 0) 1 24 (by decide) Try.underlying79 HZR.out.1 HZR.out.2.1 HZR.out.2.2.1 HZR.out.2.2.2 rfl _ os.length (os.flatMap Flat.cells) (by rfl) (HS2.out.op.row.alloc _) (some ⟨w2.heap.size, 0, none⟩) 1 1 [.slice (some ⟨W'.heap.size, 0, none⟩) (it xs k).ns.length (it xs k).ns.length] (by rfl) rfl (fun _ => ⟨_, rfl, flag_src (by simp)⟩) (fun u hu => by obtain rfl := List.mem_singleton.1 hu; rfl) (by have := HN.out.len; unfold maxLen; omega) (by have := HN.out.len; omega) (by have := HS2.out.hi; simp; omega) ?_
          intro v1 w4 hown hgrow hat
          have hpush := HSr.out.push (w2 := w2) (l := List.replicate (it xs k).ns.length false) (c := (it xs k).ns.length) HB2.out (show wr.heap.size ≤ W'.heap.size from HBW.out.size) hs2 HO2.out (by rw [List.length_replicate]; exact hown) hgrow (by simpa using hat)
          obtain ⟨V1, cv1, hv1, _⟩ := hpush.2.1.op.form
          simp only [List.length_append, List.length_cons, List.length_nil, Nat.zero_add] at hv1
          subst hv1
          have HPU := Lib.hid hpush
          have HX4 := Lib.hid (imBox_grown (imBox_alloc HX2.out _) hgrow (fun m e => (HSr.out.op.row.lt m e).2))
          have HX5 := Lib.hid (fun (u : Value) => (World.cell?_setCell_other w4 ⟨bx, 1, none⟩ ⟨wr.heap.size, 0, none⟩ u (fun e => by have q := congrArg Addr.block e; have := HSr.out.hi; simp at q; omega)).trans HX4.out.c0)
          obtain ⟨p1, p2⟩ := hpush.1
          clear hown hgrow hat hpush
          refine hK.out _ _ ?_ (fun _ => ?_)
          · exact HX4.out.c0
          clear hK K
          refine wpAnyH_take (i := 11) (oi := _) (v := ?_) rfl (by kernel_rfl) (by kernel_rfl) (by kernel_rfl) (fun _ _ _ h => h) (Or.inl ⟨by rfl, ?_⟩) (by assumption) ?_
          rotate_left
          · (intro w hSw; (try dsimp only at hSw); go_simp; try with_reducible rfl)
          try simp only [Act.put, List.setIfInBounds_toArray, List.set_cons_zero, List.set_cons_succ, List.getElem_toArray, List.getElem_cons_zero, List.getElem_cons_succ]
          refine wpAnyH_take (i := 12) (oi := _) (v := ?_) rfl (by kernel_rfl) (by kernel_rfl) (by kernel_rfl) (fun _ _ _ h => h) (Or.inl ⟨by rfl, ?_⟩) (by assumption) ?_
          rotate_left
          · (intro w hSw; (try dsimp only at hSw); go_simp; try with_reducible rfl)
          try simp only [Act.put, List.setIfInBounds_toArray, List.set_cons_zero, List.set_cons_succ, List.getElem_toArray, List.getElem_cons_zero, List.getElem_cons_succ]
          refine wpAnyH_ready (rs := [13]) (by kernel_rfl) (by simp) ?_
          refine AllReadyH.cons rfl (fun K hK => ?_) ?_
          rotate_left
          · exact AllReadyH.nil
          go_simp
          refine hK.out _ _ ?_ (fun _ => ?_)
          · exact HX5.out _
          clear hK K
          refine wpAnyH_done (by kernel_rfl) ?_ _
          clear p1 p2
          have HNF := Lib.hid (HN.out.push (some ⟨W'.heap.size, 0, none⟩) (it xs k).ns.length)
          go_wp2
          go_roundw
          case rel => exact ⟨k + 1, _, _, _, by omega, by go_num, Lib.hid HPU.out.2.1, HNF, Lib.hid (HB.out.trans HPU.out.2.2)⟩
          case measure => simp [intOf]; omega
        exact AllReadyH.nil
      exact AllReadyH.nil
    · obtain rfl : k = xs.length := by omega
      go_wp2
      go_ret
      exact ⟨⟨bx, R, d, g, G, ys, v, T, os, rfl, HSr.out, HS.out, HN.out⟩, HB.out⟩
end Go.Proofs.Ythbkfekbpjkhnaa
