/- NameNumbers, the walk. -/
import Derived.Test.YtgbnmokajaehhaaDoorNB
import Derived.Test.YtgbnmokajaehhaaDoorN4
namespace Go.Proofs.YtgbnmokajaehhaaDoor
open Go.RowKit Go.Sort
set_option linter.unusedVariables false
theorem numR_form (r : Option Nat) : ∃ x y : Int, numR r = .returned (.tuple #[.int .u64 x, .int .i64 y]) := by
  cases r with
  | none => exact ⟨_, _, rfl⟩
  | some u => exact ⟨_, _, rfl⟩
theorem intR_form (r : Option Int) : ∃ x y : Int, intR r = .returned (.tuple #[.int .i64 x, .int .i64 y]) := by
  cases r with
  | none => exact ⟨_, _, rfl⟩
  | some u => exact ⟨_, _, rfl⟩
theorem wrap64_bd (z : Int) : -9223372036854775808 ≤ wrap64 z ∧ wrap64 z ≤ 9223372036854775807 := by unfold wrap64; omega
set_option maxRecDepth 20000 in
set_option maxHeartbeats 2000000 in
theorem numbers_any (n : Nat) (hn : n < 18446744073709551616) (s : ByteArray) (w : World) (hE : Env w) : Calls Tryd.prog 4 #[.int .u64 (n : Int), .string s] w fun e w' => e = .returned (.bool true) ∧ Below w.heap.size w w' := by
  by_cases hs : 2048 < s.size
  · go_enter Tryd.func4, Tryd.ntmps4
    go_wp2_with fail
    refine (lives_any _ hE).mono ?_
    rintro e w1 ⟨rfl, B1⟩
    go_wp2
    go_ret
    exact ⟨rfl, B1⟩
  · have hs' : s.size ≤ 2048 := by omega
    obtain ⟨x, y, hxy⟩ := numR_form (numN s.data.toList)
    obtain ⟨z, u, hzu⟩ := intR_form (intN s.data.toList)
    have K1 := Lib.hid (number_any s hs')
    have K2 := Lib.hid (rnumber_any s hs')
    have K3 := Lib.hid (whole_any s hs')
    have K4 := Lib.hid (rwhole_any s hs')
    rw [← numN_eq, hxy] at K2
    rw [hxy] at K1
    rw [← intN_eq, hzu] at K4
    rw [hzu] at K3
    obtain ⟨a, ha⟩ : ∃ a, bs (Lib.decDigits n) = a := ⟨_, rfl⟩
    have K5 := Lib.hid (digits_any n hn)
    have K6 := Lib.hid (rdigits_any n hn)
    rw [ha] at K5 K6
    obtain ⟨i, hi, hi1, hi2⟩ : ∃ i, wrap64 (n : Int) = i ∧ -9223372036854775808 ≤ i ∧ i ≤ 9223372036854775807 := ⟨_, rfl, (wrap64_bd _).1, (wrap64_bd _).2⟩
    obtain ⟨b, hb⟩ : ∃ b, bs (Lib.itoa i) = b := ⟨_, rfl⟩
    have K7 := Lib.hid (signed_any i hi1 hi2)
    have K8 := Lib.hid (rsigned_any i hi1 hi2)
    rw [hb] at K7 K8
    clear hxy hzu ha hb hs
    go_enter Tryd.func4, Tryd.ntmps4
    go_wp2_with fail
    refine (K1.out _ hE).mono ?_
    rintro e w1 ⟨rfl, B1⟩
    go_wp2_with fail
    refine (K2.out _).mono ?_
    rintro e w1' ⟨rfl, rfl⟩
    go_wp2_with fail
    refine (K3.out _ (hE.below B1)).mono ?_
    rintro e w3 ⟨rfl, b3⟩
    have B3 := below_to B1 b3
    clear b3 B1
    go_wp2_with fail
    refine (K4.out _).mono ?_
    rintro e w3' ⟨rfl, rfl⟩
    go_wp2_with fail
    refine (lives_any _ (hE.below B3)).mono ?_
    rintro e w4 ⟨rfl, b4⟩
    have B4 := below_to B3 b4
    clear b4 B3
    go_wp2_with fail
    refine (K5.out _ (hE.below B4)).mono ?_
    rintro e w5 ⟨rfl, b5⟩
    have B5 := below_to B4 b5
    clear b5 B4
    go_wp2_with fail
    refine (K6.out _).mono ?_
    rintro e w5' ⟨rfl, rfl⟩
    go_wp2_with fail
    refine (K7.out _ (hE.below B5)).mono ?_
    rintro e w6 ⟨rfl, b6⟩
    have B6 := below_to B5 b6
    clear b6 B5
    go_wp2_with fail
    refine (K8.out _).mono ?_
    rintro e w6' ⟨rfl, rfl⟩
    go_wp2
    go_ret
    exact ⟨rfl, B6⟩
end Go.Proofs.YtgbnmokajaehhaaDoor
