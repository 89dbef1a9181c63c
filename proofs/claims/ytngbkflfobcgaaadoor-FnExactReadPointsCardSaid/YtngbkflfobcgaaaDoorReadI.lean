/- Reading points in the program: the digits are taken rune by rune. -/
import Derived.Test.YtngbkflfobcgaaaDoorReadP
import Derived.Laws.RangeAny
import Derived.Laws.RangeString
namespace Go.Proofs.YtngbkflfobcgaaaDoor
open Go.ChangeShapes Go.WideShapes Go.ChangeAt Go.RowKit Go.PlainAid
set_option linter.unusedVariables false

/-- What is gathered from a place on: the number, and whether a sign was seen. -/
def scan (s : ByteArray) : Nat → Nat → Int → Bool → Int × Bool
  | 0, _, n, g => (n, g)
  | b + 1, pos, n, g => if pos < s.size then
      (if ((Utf8.decode s pos).1 : Int) = 45 then scan s b (pos + (Utf8.decode s pos).2) n true
       else if 48 ≤ ((Utf8.decode s pos).1 : Int) ∧ ((Utf8.decode s pos).1 : Int) ≤ 57 then scan s b (pos + (Utf8.decode s pos).2) (10 * n + (((Utf8.decode s pos).1 : Int) - 48)) g
       else scan s b (pos + (Utf8.decode s pos).2) n g)
    else (n, g)
theorem width_pos (s : ByteArray) (pos : Nat) (h : pos < s.size) : 1 ≤ (Utf8.decode s pos).2 := by
  by_cases ha : (s[pos]'h).toNat < 128
  · rw [decode_ascii s pos h ha]
    exact Nat.le_refl _
  · exact (decode_high s pos h (by omega)).2
theorem scan_end (s : ByteArray) (b pos : Nat) (n : Int) (g : Bool) (h : ¬ pos < s.size) : scan s b pos n g = (n, g) := by
  cases b with
  | zero => rfl
  | succ b => show (if _ then _ else _) = _; rw [if_neg h]

/-- The same over bytes. -/
def scanL : List UInt8 → Int → Bool → Int × Bool
  | [], n, g => (n, g)
  | x :: r, n, g => if (x.toNat : Int) = 45 then scanL r n true
      else if 48 ≤ (x.toNat : Int) ∧ (x.toNat : Int) ≤ 57 then scanL r (10 * n + ((x.toNat : Int) - 48)) g
      else scanL r n g
theorem scan_ascii (s : ByteArray) (ha : ∀ i (h : i < s.size), (s[i]'h).toNat < 128) : ∀ (b pos : Nat) (n : Int) (g : Bool), s.size ≤ pos + b → scan s b pos n g = scanL (s.data.toList.drop pos) n g
  | 0, pos, n, g, hb => by
    rw [List.drop_of_length_le (show s.data.toList.length ≤ pos from hb)]
    rfl
  | b + 1, pos, n, g, hb => by
    by_cases h : pos < s.size
    · have e := decode_ascii s pos h (ha pos h)
      rw [drop_cons s pos h]
      show (if _ then _ else _) = (if _ then _ else _)
      rw [if_pos h, e]
      simp only []
      rw [scan_ascii s ha b (pos + 1) n true (by omega), scan_ascii s ha b (pos + 1) _ g (by omega), scan_ascii s ha b (pos + 1) n g (by omega)]
    · rw [scan_end s _ pos n g h, List.drop_of_length_le (show s.data.toList.length ≤ pos by have : s.data.toList.length = s.size := rfl; omega)]
      rfl
theorem scanL_app : ∀ (l r : List UInt8) (n : Int) (g : Bool), scanL (l ++ r) n g = scanL r (scanL l n g).1 (scanL l n g).2
  | [], _, _, _ => rfl
  | x :: l, r, n, g => by
    simp only [List.cons_append, scanL]
    split
    · exact scanL_app l r _ _
    · split
      · exact scanL_app l r _ _
      · exact scanL_app l r _ _
theorem scanL_one (v n : Int) (g : Bool) (h0 : 0 ≤ v) (h : v ≤ 9) : scanL [dg (48 + v)] n g = (10 * n + v, g) := by
  have := dg_toNat (48 + v) (by omega) (by omega)
  show (if _ then _ else _) = _
  rw [this, if_neg (by omega), if_pos (by omega)]
  show (10 * n + (48 + v - 48), g) = _
  rw [show 10 * n + (48 + v - 48) = 10 * n + v by omega]
theorem scanL_dec (a : Nat) (g : Bool) : scanL (Lib.decDigits a) 0 g = ((a : Int), g) := by
  refine dec_ind (fun a => scanL (Lib.decDigits a) 0 g = ((a : Int), g)) (fun d hd => ?_) (fun a ha ih => ?_) a a (Nat.le_refl _)
  · rw [dec_small d hd, scanL_one _ _ _ (by omega) (by omega)]
    rw [show 10 * (0 : Int) + (d : Int) = d by omega]
  · rw [dec_big a ha, scanL_app, ih, scanL_one _ _ _ (by omega) (by omega)]
    rw [show 10 * ((a / 10 : Nat) : Int) + (a : Int) % 10 = a by omega]
theorem scanL_PT (m : Int) (h0 : 0 ≤ m) (g : Bool) : scanL (PT m).data.toList 0 g = (m, g) := by
  rw [PT_bytes m h0, scanL_app, scanL_dec]
  have e : scanL ((46 : UInt8) :: [dg (48 + m / 10 % 10), dg (48 + m % 10)]) ((m / 100).toNat : Int) g = scanL ([dg (48 + m / 10 % 10)] ++ [dg (48 + m % 10)]) ((m / 100).toNat : Int) g := rfl
  show scanL ((46 : UInt8) :: [dg (48 + m / 10 % 10), dg (48 + m % 10)]) ((m / 100).toNat : Int) g = _
  rw [e, scanL_app, scanL_one _ _ _ (by omega) (by omega), scanL_one _ _ _ (by omega) (by omega)]
  rw [show 10 * (10 * ((m / 100).toNat : Int) + m / 10 % 10) + m % 10 = m by omega]
theorem scanL_PX (n : Int) : scanL (PX n).data.toList 0 false = (if n < 0 then (-n, true) else (n, false)) := by
  by_cases h : n < 0
  · rw [if_pos h, PX_neg n h]
    have : (⟨#[45]⟩ ++ PT (-n) : ByteArray).data.toList = (45 : UInt8) :: (PT (-n)).data.toList := by simp [ByteArray.data_append]
    rw [this]
    show scanL (PT (-n)).data.toList 0 true = _
    exact scanL_PT (-n) (by omega) true
  · rw [if_neg h, PX_pos n h]
    exact scanL_PT n (by omega) false
theorem PT_ascii (m : Int) (h0 : 0 ≤ m) : ∀ x ∈ (PT m).data.toList, x.toNat < 128 := by
  have d1 := dg_toNat (48 + m / 10 % 10) (by omega) (by omega)
  have d2 := dg_toNat (48 + m % 10) (by omega) (by omega)
  rw [PT_bytes m h0]
  intro x hx
  rcases List.mem_append.1 hx with hx | hx
  · have := dig_dec _ x hx
    omega
  · simp only [List.mem_cons, List.not_mem_nil, or_false] at hx
    rcases hx with rfl | rfl | rfl
    · decide
    · omega
    · omega
theorem PX_ascii (n : Int) : ∀ x ∈ (PX n).data.toList, x.toNat < 128 := by
  by_cases h : n < 0
  · rw [PX_neg n h]
    have : (⟨#[45]⟩ ++ PT (-n) : ByteArray).data.toList = (45 : UInt8) :: (PT (-n)).data.toList := by simp [ByteArray.data_append]
    rw [this]
    intro x hx
    rcases List.mem_cons.1 hx with rfl | hx
    · decide
    · exact PT_ascii (-n) (by omega) x hx
  · rw [PX_pos n h]
    exact PT_ascii n (by omega)
/-- What the program gathers from a text of points. -/
theorem scan_PX (n : Int) : scan (PX n) (PX n).size 0 0 false = (if n < 0 then (-n, true) else (n, false)) := by
  rw [scan_ascii (PX n) (fun i h => PX_ascii n _ (List.getElem_mem (l := (PX n).data.toList) h)) _ 0 0 false (by omega)]
  exact scanL_PX n
theorem PT_size9 (m : Int) (h0 : 0 ≤ m) (h : m ≤ 1000000) : (PT m).size ≤ 8 := by
  have e : (PT m).size = (PT m).data.toList.length := rfl
  have := dec_len 4 (m / 100).toNat
  have hl : (Lib.decDigits (m / 100).toNat).length ≤ 5 := by
    rcases Nat.lt_or_ge (m / 100).toNat 10000 with h1 | h1
    · exact this h1
    · have : (m / 100).toNat = 10000 := by omega
      rw [this]
      decide +kernel
  rw [e, PT_bytes m h0]
  simp
  omega
theorem PX_size9 (n : Int) (h0 : -1000000 ≤ n) (h : n ≤ 1000000) : (PX n).size ≤ 9 := by
  by_cases hn : n < 0
  · have := PT_size9 (-n) (by omega) (by omega)
    rw [PX_neg n hn, ByteArray.size_append]
    have : (⟨#[45]⟩ : ByteArray).size = 1 := rfl
    omega
  · have := PT_size9 n (by omega) (by omega)
    rw [PX_pos n hn]
    omega

theorem scan_minus (s : ByteArray) (b pos : Nat) (n : Int) (g : Bool) (h : pos < s.size) (hd : ((Utf8.decode s pos).1 : Int) = 45) : scan s (b + 1) pos n g = scan s b (pos + (Utf8.decode s pos).2) n true := by
  show (if _ then _ else _) = _
  rw [if_pos h, if_pos hd]
theorem scan_digit (s : ByteArray) (b pos : Nat) (n : Int) (g : Bool) (h : pos < s.size) (h1 : 48 ≤ ((Utf8.decode s pos).1 : Int)) (h2 : ((Utf8.decode s pos).1 : Int) ≤ 57) : scan s (b + 1) pos n g = scan s b (pos + (Utf8.decode s pos).2) (10 * n + (((Utf8.decode s pos).1 : Int) - 48)) g := by
  show (if _ then _ else _) = _
  rw [if_pos h, if_neg (by omega), if_pos ⟨h1, h2⟩]
theorem scan_other (s : ByteArray) (b pos : Nat) (n : Int) (g : Bool) (h : pos < s.size) (hd : ¬ ((Utf8.decode s pos).1 : Int) = 45) (h1 : ¬ (48 ≤ ((Utf8.decode s pos).1 : Int) ∧ ((Utf8.decode s pos).1 : Int) ≤ 57)) : scan s (b + 1) pos n g = scan s b (pos + (Utf8.decode s pos).2) n g := by
  show (if _ then _ else _) = _
  rw [if_pos h, if_neg hd, if_neg h1]

def sgn (x : Int × Bool) : Int := if x.2 then -x.1 else x.1
theorem scan_sgn (n : Int) : sgn (scan (PX n) (PX n).size 0 0 false) = n := by
  rw [scan_PX]
  unfold sgn
  by_cases h : n < 0
  · rw [if_pos h]
    show - -n = n
    omega
  · rw [if_neg h]
    rfl
theorem pb_pos : ∀ k, 1 ≤ pb k
  | 0 => Int.le_refl _
  | k + 1 => by have := pb_pos k; show 1 ≤ 10 * pb k; omega
theorem pb_mono (a : Nat) : ∀ k, pb a ≤ pb (a + k)
  | 0 => Int.le_refl _
  | k + 1 => by have := pb_mono a k; have := pb_pos (a + k); show pb a ≤ 10 * pb (a + k); omega
theorem pb_next (a W : Nat) (h : 1 ≤ W) : 10 * pb a ≤ pb (a + W) := by
  have := pb_mono (a + 1) (W - 1)
  rw [show a + 1 + (W - 1) = a + W by omega] at this
  exact this

theorem pb_eight (k : Nat) (h : k ≤ 8) : pb k ≤ 100000000 := by
  have : k = 0 ∨ k = 1 ∨ k = 2 ∨ k = 3 ∨ k = 4 ∨ k = 5 ∨ k = 6 ∨ k = 7 ∨ k = 8 := by omega
  rcases this with rfl | rfl | rfl | rfl | rfl | rfl | rfl | rfl | rfl <;> decide
set_option maxHeartbeats 1000000 in
theorem iRead_any (s : ByteArray) (w : World) (hs : s.size ≤ 1048576) (ht : Tab w) :
    Calls Tryd.prog 8 #[.string s] w (Reads2 s w) := by
  have HT := Lib.hid ht
  clear ht
  by_cases h9 : s.size ≤ 9
  · go_enter Tryd.func8, Tryd.ntmps8
    go_wp2
    go_loopw [4, 5, 7] (fun n g _ wr => ∃ (pos b c : Nat) (N : Int) (G : Bool), wr = w.iter s pos ∧ n = .int .i64 N ∧ g = .bool G ∧ 0 ≤ N ∧ Hid (N < pb c) ∧ c ≤ pos ∧ c ≤ s.size ∧ Hid (scan s b pos N G = scan s s.size 0 0 false) ∧ s.size ≤ pos + b) (fun _ _ _ wr => s.size - wr.iterPos w.heap.size)
    case atStart => exact ⟨0, s.size, 0, 0, false, rfl, rfl, rfl, Int.le_refl _, Lib.hid (by decide), Nat.le_refl _, Nat.zero_le _, Lib.hid rfl, by omega⟩
    case round =>
      obtain ⟨pos, b, c, N, G, rfl, rfl, rfl, hN, HN, hcp, hcs, HE, hb⟩ := hrel
      by_cases hp : pos < s.size
      · have hnx : ∀ ty, (Instr.next (.pointer (some ⟨w.heap.size, 0, none⟩)) true ty).run Tryd.prog (w.iter s pos) = _ := fun ty => run_next_any w s pos ty hp
        have hwd := width_pos s pos hp
        have hN2 : N ≤ 100000000 := by
          have := HN.out
          have := pb_eight c (by omega)
          omega
        obtain ⟨b, rfl⟩ : ∃ b', b = b' + 1 := ⟨b - 1, by omega⟩
        have S1 := Lib.hid (scan_minus s b pos N G hp)
        have S2 := Lib.hid (scan_digit s b pos N G hp)
        have S3 := Lib.hid (scan_other s b pos N G hp)
        generalize Utf8.decode s pos = D at hnx hwd S1 S2 S3
        obtain ⟨R, W⟩ := D
        simp only [] at hnx hwd S1 S2 S3
        have HW := Lib.hid (pb_next c 1 (Nat.le_refl _))
        have hR : ((45 : Int) ≤ (R : Int) ∧ (R : Int) ≤ 45) ∨ ((48 : Int) ≤ (R : Int) ∧ (R : Int) ≤ 57) ∨ (R : Int) < 45 ∨ ((45 : Int) < (R : Int) ∧ (R : Int) < 48) ∨ (57 : Int) < (R : Int) := by omega
        have HP1 := Lib.hid (pb_pos c)
        rcases hR with ⟨r1, r2⟩ | ⟨r1, r2⟩ | r1 | ⟨r1, r2⟩ | r1
        · have HS := Lib.hid (S1.out (by omega))
          go_wp2
          go_roundw
          case rel => exact ⟨pos + W, b, c + 1, N, true, rfl, rfl, rfl, hN, Lib.hid (by have := HN.out; have := HW.out; have := HP1.out; omega), by omega, by omega, Lib.hid (by rw [← HS.out]; exact HE.out), by omega⟩
          case measure => simp; omega
        · have HS := Lib.hid (S2.out r1 r2)
          go_wp2
          go_roundw
          case rel => exact ⟨pos + W, b, c + 1, 10 * N + ((R : Int) - 48), G, rfl, by go_num, rfl, by omega, Lib.hid (by have := HN.out; have := HW.out; omega), by omega, by omega, Lib.hid (by rw [← HS.out]; exact HE.out), by omega⟩
          case measure => simp; omega
        all_goals
          have HS := Lib.hid (S3.out (by omega) (by omega))
          go_wp2
          go_roundw
          case rel => exact ⟨pos + W, b, c + 1, N, G, rfl, rfl, rfl, hN, Lib.hid (by have := HN.out; have := HW.out; have := HP1.out; omega), by omega, by omega, Lib.hid (by rw [← HS.out]; exact HE.out), by omega⟩
          case measure => simp; omega
      · have hnx : ∀ ty, (Instr.next (.pointer (some ⟨w.heap.size, 0, none⟩)) true ty).run Tryd.prog (w.iter s pos) = _ := fun ty => run_next_end w s pos ty hp
        have HB : Hid (Below w.heap.size w (w.iter s pos)) := Lib.hid ((Below.refl _ _).alloc (Nat.le_refl _) _)
        have HT2 := Lib.hid (HT.out.next HB.out)
        have HV : Hid (∀ n, PX n = s → n = if G = true then -N else N) := Lib.hid (fun n e => by
          have h1 := scan_sgn n
          rw [e, ← HE.out, scan_end s b pos N G hp] at h1
          exact h1.symm)
        have hN2 : N ≤ 1000000000 := by
          have := HN.out
          have := (pb_le c (by omega)).2
          omega
        cases G
        · by_cases hg : N ≤ 1000000
          · by_cases hx : PX N = s
            · have HX := Lib.hid hx
              clear hx
              go_wp2_with (go_at_call 6; refine (iText_yes N _ (by omega) hg HT2.out).mono ?_; rintro e w2 ⟨rfl, hb2⟩; have HB2 := Lib.hid hb2; clear hb2; rw [HX.out])
              go_ret2
              exact ⟨.inl ⟨_, by omega, hg, HX.out, rfl⟩, Below_then HB.out HB2.out⟩
            · have HX := Lib.hid hx
              have hd := text_ne hx
              clear hx
              go_wp2_with (go_at_call 6; refine (iText_yes N _ (by omega) hg HT2.out).mono ?_; rintro e w2 ⟨rfl, hb2⟩; have HB2 := Lib.hid hb2; clear hb2)
              go_ret2
              exact ⟨.inr ⟨fun n _ _ e => HX.out (by have := HV.out n e; simp at this; rw [← this]; exact e), rfl⟩, Below_then HB.out HB2.out⟩
          · have HG := Lib.hid hg
            go_wp2_with (go_at_call 6; refine (iText_no N _ (by omega)).mono ?_; rintro e w' ⟨rfl, rfl⟩)
            go_ret2
            exact ⟨.inr ⟨fun n h1 h2 e => by have h8 := HV.out n e; have h9 := HG.out; simp at h8; omega, rfl⟩, HB.out⟩
        · obtain ⟨M, rfl⟩ : ∃ M, N = -M := ⟨-N, by omega⟩
          by_cases hg : -1000000 ≤ M
          · by_cases hx : PX M = s
            · have HX := Lib.hid hx
              clear hx
              go_wp2_with (go_at_call 6; refine (iText_yes M _ hg (by omega) HT2.out).mono ?_; rintro e w2 ⟨rfl, hb2⟩; have HB2 := Lib.hid hb2; clear hb2; rw [HX.out])
              go_ret2
              exact ⟨.inl ⟨_, hg, by omega, HX.out, rfl⟩, Below_then HB.out HB2.out⟩
            · have HX := Lib.hid hx
              have hd := text_ne hx
              clear hx
              go_wp2_with (go_at_call 6; refine (iText_yes M _ hg (by omega) HT2.out).mono ?_; rintro e w2 ⟨rfl, hb2⟩; have HB2 := Lib.hid hb2; clear hb2)
              go_ret2
              exact ⟨.inr ⟨fun n _ _ e => HX.out (by have := HV.out n e; simp at this; rw [← this]; exact e), rfl⟩, Below_then HB.out HB2.out⟩
          · have HG := Lib.hid hg
            go_wp2_with (go_at_call 6; refine (iText_no M _ (by omega)).mono ?_; rintro e w' ⟨rfl, rfl⟩)
            go_ret2
            exact ⟨.inr ⟨fun n h1 h2 e => by have h8 := HV.out n e; have h9 := HG.out; simp at h8; omega, rfl⟩, HB.out⟩
  · have hbad : ∀ n, -1000000 ≤ n → n ≤ 1000000 → PX n ≠ s := fun n h1 h2 e => by
      have := PX_size9 n h1 h2
      rw [e] at this
      exact h9 this
    have HBAD := Lib.hid hbad
    clear hbad
    go_enter Tryd.func8, Tryd.ntmps8
    go_wp2
    go_ret2
    exact ⟨.inr ⟨HBAD.out, rfl⟩, Below.refl _ _⟩
end Go.Proofs.YtngbkflfobcgaaaDoor
