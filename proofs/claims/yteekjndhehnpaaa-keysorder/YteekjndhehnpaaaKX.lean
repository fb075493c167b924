/- KeysOrder: the plain facts, the whole walk. -/
import Derived.Test.YteekjndhehnpaaaKW
import Derived.Test.YteekjndhehnpaaaKV0
namespace Go.Proofs.Yteekjndhehnpaaa
open Go.RowKit
set_option maxRecDepth 100000
set_option linter.unusedVariables false
theorem bytesLess_of : ∀ (l m : List UInt8), l.length = m.length → Op.bytesLess l m = decide (ofL l < ofL m)
  | [], [], _ => by simp [Op.bytesLess, ofL]
  | a :: l, b :: m, h => by
    have hl : l.length = m.length := by simpa using h
    have ih := bytesLess_of l m hl
    have h1 := ofL_lt l
    have h2 := ofL_lt m
    rw [hl] at h1
    unfold Op.bytesLess
    rw [ih, ofL_cons, ofL_cons, hl]
    rcases Nat.lt_trichotomy a.toNat b.toNat with hab | hab | hab
    · have e1 : decide (a < b) = true := by simpa [UInt8.lt_iff_toNat_lt] using hab
      have e2 : a.toNat * 256 ^ m.length + ofL l < b.toNat * 256 ^ m.length + ofL m := by
        have := Nat.mul_le_mul_right (256 ^ m.length) hab
        rw [Nat.succ_mul] at this
        omega
      rw [e1, decide_eq_true e2]; rfl
    · have e0 : a = b := UInt8.toNat_inj.1 hab
      subst e0
      have e1 : decide (a < a) = false := by simp
      rw [e1]
      simp
    · have e1 : decide (a < b) = false := by simp [UInt8.lt_iff_toNat_lt]; omega
      have e2 : (a == b) = false := by rw [beq_eq_false_iff_ne]; intro e; subst e; omega
      have e3 : ¬ a.toNat * 256 ^ m.length + ofL l < b.toNat * 256 ^ m.length + ofL m := by
        have := Nat.mul_le_mul_right (256 ^ m.length) hab
        rw [Nat.succ_mul] at this
        omega
      rw [e1, e2, decide_eq_false e3]; rfl
theorem less_app : ∀ (p x y : List UInt8), Op.bytesLess (p ++ x) (p ++ y) = Op.bytesLess x y
  | [], x, y => rfl
  | a :: p, x, y => by
    rw [List.cons_append, List.cons_append, Op.bytesLess, less_app p x y]
    simp
theorem less_len : ∀ (x x' y y' : List UInt8), x.length = x'.length → Op.bytesLess (x ++ y) (x' ++ y') = (Op.bytesLess x x' || ((x == x') && Op.bytesLess y y'))
  | [], [], y, y', _ => by simp [Op.bytesLess]
  | a :: x, b :: x', y, y', h => by
    have ih := less_len x x' y y' (by simpa using h)
    rw [List.cons_append, List.cons_append, Op.bytesLess, Op.bytesLess, ih]
    by_cases hab : a = b
    · subst hab; simp
    · have : (a == b) = false := beq_false_of_ne hab
      have h2 : ((a :: x) == (b :: x')) = false := by rw [beq_eq_false_iff_ne]; intro e; injection e with e1 _; exact hab e1
      rw [this, h2]; simp
theorem less_nul : ∀ (n n' X X' : List UInt8), noZ n → noZ n' → Op.bytesLess (n ++ 0 :: X) (n' ++ 0 :: X') = (Op.bytesLess n n' || ((n == n') && Op.bytesLess X X'))
  | [], [], X, X', _, _ => by simp [Op.bytesLess]
  | [], b :: n', X, X', _, h => by
    have hb : b ≠ 0 := h b (by simp)
    have : (0 : UInt8) < b := by rw [UInt8.lt_iff_toNat_lt]; have : b.toNat ≠ 0 := fun e => hb (UInt8.toNat_inj.1 e); show 0 < b.toNat; omega
    simp [Op.bytesLess, this]
  | a :: n, [], X, X', h, _ => by
    have ha : a ≠ 0 := h a (by simp)
    have : ¬ a < (0 : UInt8) := by rw [UInt8.lt_iff_toNat_lt]; show ¬ a.toNat < 0; omega
    simp [Op.bytesLess, this, ha]
  | a :: n, b :: n', X, X', h1, h2 => by
    have ih := less_nul n n' X X' (fun c hc => h1 c (by simp [hc])) (fun c hc => h2 c (by simp [hc]))
    rw [List.cons_append, List.cons_append, Op.bytesLess, Op.bytesLess, ih]
    by_cases hab : a = b
    · subst hab; simp
    · have : (a == b) = false := beq_false_of_ne hab
      have h2 : ((a :: n) == (b :: n')) = false := by rw [beq_eq_false_iff_ne]; intro e; injection e with e1 _; exact hab e1
      rw [this, h2]; simp
theorem less8 (n m : Nat) (hn : n < 18446744073709551616) (hm : m < 18446744073709551616) : Op.bytesLess (numL 8 n) (numL 8 m) = decide (n < m) := by
  rw [bytesLess_of _ _ (by rw [numL_length, numL_length]), ofL_num8 n hn, ofL_num8 m hm]
theorem eq8 (n m : Nat) (hn : n < 18446744073709551616) (hm : m < 18446744073709551616) : (numL 8 n == numL 8 m) = decide (n = m) := by
  by_cases h : n = m
  · subst h; simp
  · rw [decide_eq_false h, beq_eq_false_iff_ne]
    intro e
    have := congrArg ofL e
    rw [ofL_num8 n hn, ofL_num8 m hm] at this
    exact h this
theorem less1 (n m : Nat) (hn : n < 256) (hm : m < 256) : Op.bytesLess (numL 1 n) (numL 1 m) = decide (n < m) := by
  rw [bytesLess_of _ _ (by rw [numL_length, numL_length]), ofL_num, ofL_num]
  simp [Nat.mod_eq_of_lt hn, Nat.mod_eq_of_lt hm]
theorem bs_list (l : List UInt8) : (bs l).toList = l := by rw [ByteArray.toList_eq]; exact bs_toList l
theorem ok_kind {k : K} (h : okK k = true) : 1 ≤ k.kind ∧ k.kind ≤ 5 := by
  unfold okK at h; simp only [Bool.and_eq_true, decide_eq_true_eq] at h; exact h.1.1
theorem ok_part {k : K} (h : okK k = true) (h5 : k.kind = 5) : 1 ≤ k.part ∧ k.part ≤ 16 := by
  unfold okK at h; simp only [Bool.and_eq_true, decide_eq_true_eq, h5] at h; simp at h; exact h.2.2.1
theorem ok_name {k : K} (h : okK k = true) (h3 : k.kind = 3) : nameB k.nam = true := by
  unfold okK at h; simp only [Bool.and_eq_true, decide_eq_true_eq, h3] at h; simp at h; exact h.2.2.1
theorem keysOrder_walk (a : K) (ha : KeyIn a) (b : K) (hb : KeyIn b) (bk : ByteArray) (hs : bk.size ≤ maxLen) (w : World) : Calls Try.prog 5 #[kV a, kV b, .string bk] w fun e w' => e = .returned (.bool true) ∧ Below w.heap.size w w' := by
  obtain ⟨k1, t1, b1, n1, u1, p1⟩ := a
  obtain ⟨k2, t2, b2, n2, u2, p2⟩ := b
  obtain ⟨hb1, hn1, hu1⟩ := ha
  obtain ⟨hb2, hn2, hu2⟩ := hb
  simp only at hb1 hn1 hu1 hb2 hn2 hu2
  by_cases e2 : k1 = 2
  · subst e2
    refine keysOrder2 t1 b1 n1 u1 p1 k2 t2 b2 n2 u2 p2 bk _ _ _ _ (Lib.hid (make_any ⟨2, t1, b1, n1, u1, p1⟩ hb1 hn1 hu1)) (Lib.hid (make_any ⟨2, t1, b2, n2, u2, p2⟩ hb2 hn2 hu2)) (Lib.hid fun h1 h2 => ?_) w
    rw [makeS_ok (argE_zero h1), makeS_ok (argE_zero h2), bs_list, bs_list]
    show Op.bytesLess (begL 2 t1 ++ b1.data.toList) (begL 2 t1 ++ b2.data.toList) = _
    rw [less_app, ByteArray.toList_eq, ByteArray.toList_eq]
  have A := fun k (hk : k1 = k) => make_any ⟨k1, t1, bk, n1, u1, p1⟩ hs hn1 hu1
  have B := make_any ⟨k1, t1, bk, n2, u2, p2⟩ hs hn2 hu2
  by_cases e3 : k1 = 3
  · subst e3
    refine keysOrder3 t1 b1 n1 u1 p1 k2 t2 b2 n2 u2 p2 bk _ _ _ _ (Lib.hid (A 3 rfl)) (Lib.hid B) (Lib.hid fun h1 h2 => ?_) w
    have z1 := (nameB_noZ (ok_name (argE_zero h1) rfl)).1
    have z2 := (nameB_noZ (ok_name (argE_zero h2) rfl)).1
    rw [makeS_ok (argE_zero h1), makeS_ok (argE_zero h2), bs_list, bs_list]
    have e : ∀ n u p, encL ⟨3, t1, bk, n, u, p⟩ = allL 3 t1 bk ++ (n.data.toList ++ 0 :: numL 8 (18446744073709551615 - u)) := fun n u p => by simp [encL, chainL]
    rw [e, e, less_app, less_nul _ _ _ _ z1 z2, less8 _ _ (by omega) (by omega), ByteArray.toList_eq, ByteArray.toList_eq]
    congr 2
    rw [decide_eq_decide]; omega
  by_cases e4 : k1 = 4
  · subst e4
    refine keysOrder4 t1 b1 n1 u1 p1 k2 t2 b2 n2 u2 p2 bk _ _ _ _ (Lib.hid (A 4 rfl)) (Lib.hid B) (Lib.hid fun h1 h2 => ?_) w
    rw [makeS_ok (argE_zero h1), makeS_ok (argE_zero h2), bs_list, bs_list]
    have e : ∀ n u p, encL ⟨4, t1, bk, n, u, p⟩ = allL 4 t1 bk ++ numL 8 u := fun n u p => by simp [encL]
    rw [e, e, less_app, less8 _ _ hu1 hu2, decide_eq_decide]
    omega
  by_cases e5 : k1 = 5
  · subst e5
    refine keysOrder5 t1 b1 n1 u1 p1 k2 t2 b2 n2 u2 p2 bk _ _ _ _ (Lib.hid (A 5 rfl)) (Lib.hid B) (Lib.hid fun h1 h2 => ?_) w
    have q1 := ok_part (argE_zero h1) rfl
    have q2 := ok_part (argE_zero h2) rfl
    simp only at q1 q2
    rw [makeS_ok (argE_zero h1), makeS_ok (argE_zero h2), bs_list, bs_list]
    have e : ∀ n u p, encL ⟨5, t1, bk, n, u, p⟩ = allL 5 t1 bk ++ (numL 8 u ++ numL 1 p.toNat) := fun n u p => by simp [encL, piecesL]
    rw [e, e, less_app, less_len _ _ _ _ (by rw [numL_length, numL_length]), less8 _ _ hu1 hu2, eq8 _ _ hu1 hu2, less1 _ _ (by omega) (by omega), nat_beq]
    congr 1
    · rw [decide_eq_decide]; omega
    · congr 1
      rw [decide_eq_decide]; omega
  · have h' : ∀ j : Int, k1 ≠ j → (k1 == j) = false := fun j h => by simpa using h
    refine keysOrder1 k1 (bne_iff_ne.2 e2) (h' 2 e2) (h' 3 e3) (h' 4 e4) (h' 5 e5) t1 b1 n1 u1 p1 k2 t2 b2 n2 u2 p2 bk _ _ _ _ (Lib.hid (A k1 rfl)) (Lib.hid B) (Lib.hid fun h1 h2 => ?_) w
    have := ok_kind (argE_zero h1)
    simp only at this
    obtain rfl : k1 = 1 := by omega
    rw [makeS_ok (argE_zero h1), makeS_ok (argE_zero h2), bs_list, bs_list]
    have e : ∀ n u p, encL ⟨1, t1, bk, n, u, p⟩ = begL 1 t1 := fun n u p => by simp [encL]
    rw [e, e]
    simp
end Go.Proofs.Yteekjndhehnpaaa
