/- Contracts of package crc's small functions. -/
import Derived.Test.YtgbnmokajaehhaaDoorRows
import Derived.Test.YtgbnmokajaehhaaDoorXC1
import Derived.WalkKit
import Derived.WalkLawsBesides
import Derived.WalkSpells
import Derived.Lib.Hide
import Derived.Laws.BitsAll
import Derived.Outline
namespace Go.Proofs.YtgbnmokajaehhaaDoor.Oc
open Go.RowKit

theorem ret_bool {a b : Bool} (h : a = b) : Ending.returned (.bool a) = .returned (.bool b) := by rw [h]
theorem ret_int {k : IntKind} {a b : Int} (h : a = b) : Ending.returned (.int k a) = .returned (.int k b) := by rw [h]

theorem and1 (r : Nat) (h : r < 4294967296) : bits .and .u32 (r : Int) 1 = ((r % 2 : Nat) : Int) := by
  rw [show (1 : Int) = ((1 : Nat) : Int) from rfl, u32_and_nat r 1 h (by omega), Nat.and_one_is_mod]
theorem xor32 (a b : Nat) (ha : a < 4294967296) (hb : b < 4294967296) : bits .xor .u32 (a : Int) (b : Int) = ((a ^^^ b : Nat) : Int) := u32_xor_nat a b ha hb
theorem stp_odd {r : Nat} (h : r % 2 = 1) : stp r = (r / 2) ^^^ poly := by unfold stp; rw [if_pos h]
theorem stp_ev {r : Nat} (h : ¬ r % 2 = 1) : stp r = r / 2 := by unfold stp; rw [if_neg h]

theorem step_any (r : Nat) (w : World) (h : r < 4294967296) :
    Calls Tryd.prog 77 #[.int .u32 (r : Int)] w fun e w' => e = .returned (.int .u32 (stp r : Nat)) ∧ w = w' := by
  have ha := Lib.hid (and1 r h)
  have hx := Lib.hid (xor32 (r / 2) poly (by omega) (by unfold poly; omega))
  by_cases ho : r % 2 = 1
  · have hd : (bits .and .u32 (r : Int) 1 == 1) = true := by rw [ha.out, ho]; rfl
    have he := Lib.hid (stp_odd ho)
    clear ho
    go_enter Tryd.func77, Tryd.ntmps77
    go_wp2
    go_ret
    exact ⟨ret_int (by rw [he.out, ← hx.out]; rfl), rfl⟩
  · have hd : (bits .and .u32 (r : Int) 1 == 1) = false := by rw [ha.out]; simp; omega
    have he := Lib.hid (stp_ev ho)
    clear ho
    go_enter Tryd.func77, Tryd.ntmps77
    go_wp2
    go_ret
    exact ⟨ret_int (by rw [he.out]; rfl), rfl⟩

theorem eight_any (r : Nat) (w : World) (h : r < 4294967296) :
    Calls Tryd.prog 96 #[.int .u32 (r : Int)] w fun e w' => e = .returned (.int .u32 (stps 8 r : Nat)) ∧ w = w' := by
  go_enter Tryd.func96, Tryd.ntmps96
  go_wp2
  go_loop [0, 3] (fun t i => ∃ k : Nat, k ≤ 8 ∧ i = .int .i64 k ∧ t = .int .u32 (stps k r : Nat)) (fun _ i => 8 - (intOf i).toNat)
  case atStart => exact ⟨0, by omega, rfl, rfl⟩
  case round =>
    obtain ⟨k, hk, rfl, rfl⟩ := hrel
    by_cases hlt : k < 8
    · go_wp2_with (go_at_call 77; refine (step_any _ _ (stps_lt h)).mono ?_; rintro e w' ⟨rfl, rfl⟩)
      go_round
      case rel => exact ⟨k + 1, by omega, by go_num, by rw [stps_succ]⟩
      case measure => simp [intOf]; omega
    · obtain rfl : k = 8 := by omega
      go_wp2
      go_ret
      exact ⟨rfl, rfl⟩

theorem and_pow (a i : Nat) : a &&& 2 ^ i = if a.testBit i then 2 ^ i else 0 := by
  apply Nat.eq_of_testBit_eq
  intro j
  rw [Nat.testBit_and, Nat.testBit_two_pow]
  by_cases h : i = j
  · subst h; cases hb : a.testBit i <;> simp
  · cases hb : a.testBit i <;> simp [h]
theorem pow_div (k : Nat) (hk : k < 32) : (2147483648 : Int) / 2 ^ k = ((2 ^ (31 - k) : Nat) : Int) := by
  have e : (2147483648 : Nat) = 2 ^ (31 - k) * 2 ^ k := by rw [← Nat.pow_add, Nat.sub_add_cancel (by omega)]
  have e2 : (2147483648 : Nat) / 2 ^ k = 2 ^ (31 - k) := by
    conv => lhs; rw [e]
    exact Nat.mul_div_cancel _ (Nat.two_pow_pos k)
  rw [← e2]; simp
theorem and_bit (a k : Nat) (ha : a < 4294967296) (hk : k < 32) : (bits .and .u32 (a : Int) (2147483648 / 2 ^ k) != 0) = a.testBit (31 - k) := by
  have h2 : 2 ^ (31 - k) < 4294967296 := Nat.lt_of_le_of_lt (Nat.pow_le_pow_right (n := 2) (by omega) (show 31 - k ≤ 31 by omega)) (by omega)
  rw [pow_div k hk, u32_and_nat a _ ha h2, and_pow]
  have h3 : ((2 ^ (31 - k) : Nat) : Int) ≠ 0 := by have := Nat.two_pow_pos (31 - k); omega
  cases a.testBit (31 - k)
  · rfl
  · exact bne_iff_ne.2 h3
theorem prodTo_yes {a b k : Nat} (h : a.testBit (31 - k) = true) : prodTo a b (k + 1) = prodTo a b k ^^^ stps k b := by
  show (if _ then _ else _) = _; rw [if_pos h]
theorem prodTo_no {a b k : Nat} (h : a.testBit (31 - k) = false) : prodTo a b (k + 1) = prodTo a b k := by
  show (if _ then _ else _) = _; rw [if_neg (by rw [h]; simp)]

set_option maxHeartbeats 400000 in
theorem product_any (a b : Nat) (w : World) (ha : a < 4294967296) (hb : b < 4294967296) :
    Calls Tryd.prog 54 #[.int .u32 (a : Int), .int .u32 (b : Int)] w fun e w' => e = .returned (.int .u32 (prodN a b : Nat)) ∧ w = w' := by
  go_enter Tryd.func54, Tryd.ntmps54
  go_wp2
  go_loop [1, 5, 7] (fun x s i => ∃ k : Nat, k ≤ 32 ∧ i = .int .i64 k ∧ x = .int .u32 (stps k b : Nat) ∧ s = .int .u32 (prodTo a b k : Nat)) (fun _ _ i => 32 - (intOf i).toNat)
  case atStart => exact ⟨0, by omega, rfl, rfl, rfl⟩
  case round =>
    obtain ⟨k, hk, rfl, rfl, rfl⟩ := hrel
    by_cases hlt : k < 32
    · go_wp2_with (go_at_call 77; refine (step_any _ _ (stps_lt hb)).mono ?_; rintro e w' ⟨rfl, rfl⟩)
      · rename_i ht _
        go_round
        case rel => exact ⟨k + 1, by omega, by go_num, by rw [stps_succ], by rw [prodTo_yes ((and_bit a k ha hlt).symm.trans ht), ← xor32 _ _ (prodTo_lt k hb) (stps_lt hb)]⟩
        case measure => simp [intOf]; omega
      · rename_i ht _
        go_round
        case rel => exact ⟨k + 1, by omega, by go_num, by rw [stps_succ], by rw [prodTo_no ((and_bit a k ha hlt).symm.trans ht)]⟩
        case measure => simp [intOf]; omega
    · obtain rfl : k = 32 := by omega
      go_wp2
      go_ret
      exact ⟨rfl, rfl⟩

theorem and1_i64 (m : Nat) (h : m < 9223372036854775808) : bits .and .i64 (m : Int) 1 = ((m % 2 : Nat) : Int) := by
  have h1 : (BitVec.ofInt 64 (m : Int)).toNat = m := by rw [BitVec.ofInt_natCast, BitVec.toNat_ofNat]; exact Nat.mod_eq_of_lt (by omega)
  show IntKind.i64.wrap ((BitVec.ofInt 64 (m : Int) &&& BitVec.ofInt 64 1).toNat : Int) = _
  rw [BitVec.toNat_and, h1, show (BitVec.ofInt 64 1).toNat = 1 from rfl, Nat.and_one_is_mod, IntKind.wrap_i64]
  omega
theorem bit_i64 (n k : Nat) (h : n ≤ 1073741824) : (bits .and .i64 ((n : Int) / 2 ^ k) 1 == 1) = decide (n / 2 ^ k % 2 = 1) := by
  have e : (n : Int) / 2 ^ k = ((n / 2 ^ k : Nat) : Int) := by simp
  rw [e, and1_i64 _ (Nat.lt_of_le_of_lt (Nat.div_le_self _ _) (by omega)), Bool.eq_iff_iff]
  simp; omega
set_option maxHeartbeats 400000 in
theorem shift_any (n : Nat) (w : World) (h : n ≤ 1073741824) :
    Calls Tryd.prog 55 #[.int .i64 (n : Int)] w fun e w' => e = .returned (.int .u32 (powTo n 31 : Nat)) ∧ w = w' := by
  go_enter Tryd.func55, Tryd.ntmps55
  go_wp2
  go_loop [3, 4, 6] (fun p q i => ∃ k : Nat, k ≤ 31 ∧ i = .int .i64 k ∧ p = .int .u32 (powTo n k : Nat) ∧ q = .int .u32 (sqTo k : Nat)) (fun _ _ i => 31 - (intOf i).toNat)
  case atStart => exact ⟨0, by omega, rfl, by unfold powTo; rw [Nat.pow_zero, Nat.mod_one]; rfl, by unfold sqTo; rw [show 8 * 2 ^ 0 = 8 from rfl, one8]; rfl⟩
  case round =>
    obtain ⟨k, hk, rfl, rfl, rfl⟩ := hrel
    by_cases hlt : k < 31
    · go_wp2_with (go_at_call 54; refine (product_any _ _ _ (by first | exact powTo_lt _ _ | exact sqTo_lt _) (sqTo_lt _)).mono ?_; rintro e w' ⟨rfl, rfl⟩)
      · rename_i ht _
        rw [bit_i64 n k h] at ht
        go_round
        case rel => exact ⟨k + 1, by omega, by go_num, by rw [powTo_succ1 n k (of_decide_eq_true ht)], by rw [sqTo_succ]⟩
        case measure => simp [intOf]; omega
      · rename_i ht _
        rw [bit_i64 n k h] at ht
        go_round
        case rel => exact ⟨k + 1, by omega, by go_num, by rw [powTo_succ0 n k (by have := of_decide_eq_false ht; omega)], by rw [sqTo_succ]⟩
        case measure => simp [intOf]; omega
    · obtain rfl : k = 31 := by omega
      go_wp2
      go_ret
      exact ⟨rfl, rfl⟩

/-- What Join answers, for whatever length. -/
def joinZ (a b : Nat) (n : Int) : Nat := if n < 0 ∨ 1073741824 < n then 0 else joinN a b n.toNat
theorem joinZ_lt {a b : Nat} (n : Int) (ha : a < 4294967296) (hb : b < 4294967296) : joinZ a b n < 4294967296 := by
  unfold joinZ; split
  · omega
  · exact joinN_lt ha hb
theorem joinZ_no {a b : Nat} {n : Int} (h : n < 0 ∨ 1073741824 < n) : joinZ a b n = 0 := by unfold joinZ; rw [if_pos h]
theorem joinZ_nat {a b n : Nat} (h : n ≤ 1073741824) : joinZ a b n = joinN a b n := by unfold joinZ; rw [if_neg (by omega)]; rfl

theorem join_any (a b : Nat) (n : Int) (w : World) (ha : a < 4294967296) (hb : b < 4294967296) :
    Calls Tryd.prog 28 #[.int .u32 (a : Int), .int .u32 (b : Int), .int .i64 n] w fun e w' => e = .returned (.int .u32 (joinZ a b n : Nat)) ∧ w = w' := by
  by_cases h0 : n < 0
  · have hz := Lib.hid (joinZ_no (a := a) (b := b) (.inl h0))
    go_enter Tryd.func28, Tryd.ntmps28
    go_wp2
    go_ret
    exact ⟨ret_int (by rw [hz.out]; rfl), rfl⟩
  · by_cases h1 : 1073741824 < n
    · have hz := Lib.hid (joinZ_no (a := a) (b := b) (.inr h1))
      go_enter Tryd.func28, Tryd.ntmps28
      go_wp2
      go_ret
      exact ⟨ret_int (by rw [hz.out]; rfl), rfl⟩
    · obtain ⟨m, rfl⟩ := Int.eq_ofNat_of_zero_le (show 0 ≤ n by omega)
      have hm : m ≤ 1073741824 := by omega
      have hz := Lib.hid (joinZ_nat (a := a) (b := b) hm)
      have hj := Lib.hid (joinN_of a b m ha hm)
      have hx := Lib.hid (xor32 (prodN a (powTo m 31)) b (prodN_lt (powTo_lt m 31)) hb)
      go_enter Tryd.func28, Tryd.ntmps28
      go_wp2_with (first | (go_at_call 55; refine (shift_any m _ hm).mono ?_; rintro e w' ⟨rfl, rfl⟩) | (go_at_call 54; refine (product_any _ _ _ ha (powTo_lt m 31)).mono ?_; rintro e w' ⟨rfl, rfl⟩))
      go_ret
      exact ⟨ret_int (by rw [hz.out, ← hj.out, ← hx.out]), rfl⟩
end Go.Proofs.YtgbnmokajaehhaaDoor.Oc
