/- A nil reader reads nothing; numbers' bytes are in order. -/
import Derived.Test.YtgbnmokajaehhaaOC
namespace Go.Proofs.Ytgbnmokajaehhaa
open Go.RowKit
set_option maxRecDepth 100000 in
set_option maxHeartbeats 2000000 in
theorem octetsNil_walk (n : Int) (w : World) : Calls Try.prog 7 #[.int .i64 n] w fun e w' => e = .returned (.bool true) ∧ Below w.heap.size w w' := by
  go_enter Try.func7, Try.ntmps7
  go_wp2_with fail
  refine (rnum_nil _ _).mono ?_
  rintro e w1 ⟨rfl, B1⟩
  go_wp2_with fail
  refine (rtext_nil _ _).mono ?_
  rintro e w2 ⟨rfl, hb⟩
  have B2 := below_to B1 hb
  clear hb
  go_wp2_with fail
  refine (raw_nil _ _).mono ?_
  rintro e w' ⟨rfl, rfl⟩
  go_wp2_with fail
  refine (left_nil _).mono ?_
  rintro e w' ⟨rfl, rfl⟩
  go_wp2_with fail
  refine (err_nil _).mono ?_
  rintro e w' ⟨rfl, rfl⟩
  go_wp2_with fail
  refine (end_nil _).mono ?_
  rintro e w' ⟨rfl, rfl⟩
  go_wp2_with fail
  refine (lives3 _).mono ?_
  rintro e w3 ⟨rfl, hb⟩
  have B3 := below_to B2 hb
  clear hb
  go_wp2_with fail
  go_ret
  exact ⟨rfl, B3⟩
theorem bytesLess_of : ∀ (l m : List UInt8), l.length = m.length → Op.bytesLess l m = decide (ofL l < ofL m)
  | [], [], _ => by simp [Op.bytesLess, ofL]
  | a :: l, b :: m, h => by
    have hl : l.length = m.length := by simpa using h
    have ih := bytesLess_of l m hl
    have h1 := ofL_lt l
    have h2 := ofL_lt m
    rw [hl] at h1
    unfold Op.bytesLess
    rw [ih, ofL_cons, ofL_cons, hl]
    rcases Nat.lt_trichotomy a.toNat b.toNat with hab | hab | hab
    · have e1 : decide (a < b) = true := by simpa [UInt8.lt_iff_toNat_lt] using hab
      have e2 : a.toNat * 256 ^ m.length + ofL l < b.toNat * 256 ^ m.length + ofL m := by
        have := Nat.mul_le_mul_right (256 ^ m.length) hab
        rw [Nat.succ_mul] at this
        omega
      rw [e1, decide_eq_true e2]; rfl
    · have e0 : a = b := UInt8.toNat_inj.1 hab
      subst e0
      have e1 : decide (a < a) = false := by simp
      rw [e1]
      simp
    · have e1 : decide (a < b) = false := by simp [UInt8.lt_iff_toNat_lt]; omega
      have e2 : (a == b) = false := by rw [beq_eq_false_iff_ne]; intro e; subst e; omega
      have e3 : ¬ a.toNat * 256 ^ m.length + ofL l < b.toNat * 256 ^ m.length + ofL m := by
        have := Nat.mul_le_mul_right (256 ^ m.length) hab
        rw [Nat.succ_mul] at this
        omega
      rw [e1, e2, decide_eq_false e3]; rfl
theorem rise_less (n m : Nat) (hn : n < 18446744073709551616) (hm : m < 18446744073709551616) : Op.bytesLess (bs (numL 8 n)).toList (bs (numL 8 m)).toList = decide (n < m) := by
  have e : ∀ l, (bs l).toList = l := fun l => by rw [ByteArray.toList_eq]; exact bs_toList l
  rw [e, e, bytesLess_of _ _ (by rw [numL_length, numL_length]), ofL_num8 n hn, ofL_num8 m hm]
set_option maxRecDepth 100000 in
set_option maxHeartbeats 2000000 in
theorem octetsOrder_walk (n m : Nat) (hn : n < 18446744073709551616) (hm : m < 18446744073709551616) (w : World) : Calls Try.prog 6 #[.int .u64 (n : Int), .int .u64 (m : Int)] w fun e w' => e = .returned (.bool true) ∧ Below w.heap.size w w' := by
  obtain ⟨fn, hfn⟩ : ∃ f, n + f = 18446744073709551615 := ⟨18446744073709551615 - n, by omega⟩
  obtain ⟨fm, hfm⟩ : ∃ f, m + f = 18446744073709551615 := ⟨18446744073709551615 - m, by omega⟩
  have l1 := rise_less n m hn hm
  have l2 := rise_less fn fm (by omega) (by omega)
  have e2 : decide (fn < fm) = decide (m < n) := by rw [Bool.eq_iff_iff]; simp; omega
  rw [e2] at l2
  have z1 : (bs (numL 8 n)).size = 8 := by rw [bs_size, numL_length]
  have z2 : (bs (numL 8 fn)).size = 8 := by rw [bs_size, numL_length]
  obtain ⟨a, ha⟩ : ∃ a, bs (numL 8 n) = a := ⟨_, rfl⟩
  obtain ⟨b, hb⟩ : ∃ a, bs (numL 8 m) = a := ⟨_, rfl⟩
  obtain ⟨c, hc⟩ : ∃ a, bs (numL 8 fn) = a := ⟨_, rfl⟩
  obtain ⟨d, hd⟩ : ∃ a, bs (numL 8 fm) = a := ⟨_, rfl⟩
  rw [ha, hb] at l1
  rw [hc, hd] at l2
  rw [ha] at z1
  rw [hc] at z2
  have HA := Lib.hid ha
  have HB := Lib.hid hb
  have HC := Lib.hid hc
  have HD := Lib.hid hd
  have HN := Lib.hid hfn
  have HM := Lib.hid hfm
  clear ha hb hc hd hfn hfm e2
  go_enter Try.func6, Try.ntmps6
  go_wp2_with fail
  refine (lives3 _).mono ?_
  rintro e w1 ⟨rfl, B1⟩
  go_wp2_with fail
  refine (rise_lit n a HA.out _ hn).mono ?_
  rintro e w2 ⟨rfl, h⟩
  have B2 := below_to B1 h
  clear h
  go_wp2_with fail
  refine (rise_lit m b HB.out _ hm).mono ?_
  rintro e w3 ⟨rfl, h⟩
  have B3 := below_to B2 h
  clear h
  go_wp2_with fail
  refine (fall_lit n fn c HC.out _ hn HN.out).mono ?_
  rintro e w4 ⟨rfl, h⟩
  have B4 := below_to B3 h
  clear h
  go_wp2_with fail
  refine (fall_lit m fm d HD.out _ hm HM.out).mono ?_
  rintro e w5 ⟨rfl, h⟩
  have B5 := below_to B4 h
  clear h
  go_wp2_with fail
  refine (rise_lit n a HA.out _ hn).mono ?_
  rintro e w6 ⟨rfl, h⟩
  have B6 := below_to B5 h
  clear h
  go_wp2_with fail
  refine (fall_lit n fn c HC.out _ hn HN.out).mono ?_
  rintro e w7 ⟨rfl, h⟩
  have B7 := below_to B6 h
  clear h
  go_wp2_with fail
  go_ret
  exact ⟨rfl, B7⟩
end Go.Proofs.Ytgbnmokajaehhaa
