/- Contracts: Make, at any key. -/
import Derived.Test.YteekjndhehnpaaaKK
namespace Go.Proofs.Yteekjndhehnpaaa
open Go.RowKit
set_option maxRecDepth 100000
set_option linter.unusedVariables false
set_option linter.unusedSimpArgs false
set_option maxHeartbeats 4000000
/-- What Make answers. -/
def makeS (k : K) : ByteArray := bs (if okK k then encL k else [])
theorem num8_size (n : Nat) : (bs (numL 8 n)).size ≤ 8 := by rw [bs_size, numL_length]; omega
theorem allS_le {k t : Int} {b : ByteArray} (hk : inB k = true) (ht : tenB t = true) (hb : bucketB b = true) : (allS k t b).size ≤ 100 := by
  have := allS_size hk ht hb
  have := (bucketB_noZ hb).2.2
  omega
theorem make_ok (k : K) (hu : k.num < 18446744073709551616) (hk : okK k = true) (w : World) : Calls Try.prog 11 #[kV k] w fun e w' => e = strErr (bs (encL k)) 0 ∧ Below w.heap.size w w' := by
  obtain ⟨kind, t, b, n, u, p⟩ := k
  simp only at hu
  have hk0 := hk
  unfold okK at hk
  simp only [Bool.and_eq_true, decide_eq_true_eq] at hk
  obtain ⟨⟨hkk, ht⟩, hk⟩ := hk
  have hbz : b.size ≤ maxLen := by
    by_cases h1 : kind = 1
    · rw [if_pos h1, decide_eq_true_eq] at hk; rw [hk.1]; exact Nat.zero_le _
    · rw [if_neg h1, Bool.and_eq_true] at hk; have := (bucketB_noZ hk.1).2.2; exact Nat.le_trans this (by decide)
  have hnz : n.size ≤ maxLen := by
    by_cases h1 : kind = 1
    · rw [if_pos h1, decide_eq_true_eq] at hk; rw [hk.2.1]; exact Nat.zero_le _
    · rw [if_neg h1, Bool.and_eq_true] at hk
      obtain ⟨_, hk⟩ := hk
      by_cases h3 : kind = 3
      · rw [if_pos h3, Bool.and_eq_true] at hk; have := (nameB_noZ hk.1).2.2; exact Nat.le_trans this (by decide)
      · rw [if_neg h3] at hk
        have : n = ByteArray.empty := by
          by_cases h5 : kind = 5
          · rw [if_pos h5, Bool.and_eq_true, decide_eq_true_eq] at hk; simpa using hk.2
          · rw [if_neg h5, decide_eq_true_eq] at hk; exact hk.1
        rw [this]; exact Nat.zero_le _
  have HC := Lib.hid (check_any ⟨kind, t, b, n, u, p⟩ hbz hnz)
  rw [hk0] at HC
  simp only [argE, kV] at HC
  have : kind = 1 ∨ kind = 2 ∨ kind = 3 ∨ kind = 4 ∨ kind = 5 := by omega
  rcases this with rfl | rfl | rfl | rfl | rfl
  · exact make1 t b n u p _ (Lib.hid (fun w => beginning_any 1 t w (by omega) (by omega) ht)) HC w
  · rw [if_neg (by omega), Bool.and_eq_true] at hk
    have hA : bucketsS t = bs (begL 2 t) := by unfold bucketsS; rw [ht]; rfl
    refine (make2 t b n u p (bucketsS t) (by rw [hA, begL_size]; omega) (bucketB_noZ hk.1).2.2 (Lib.hid (buckets_any t)) HC w).mono ?_
    rintro e w' ⟨rfl, h⟩
    refine ⟨?_, h⟩
    rw [hA]
    congr 1
  · rw [if_neg (by omega), Bool.and_eq_true, if_pos rfl, Bool.and_eq_true] at hk
    have hA : chainS t b n = bs (chainL t b n) := by unfold chainS; rw [ht, hk.1, hk.2.1]; rfl
    have h1 := (bucketB_noZ hk.1).2.2
    have h2 := (nameB_noZ hk.2.1).2.2
    refine (make3 t b n u p (chainS t b n) (bs (numL 8 (18446744073709551615 - u))) (by rw [hA, bs_size]; simp [chainL, allL, begL]; omega) (num8_size _) (Lib.hid (chain_any t b n hbz hnz)) (Lib.hid (fun w => fall_any u (18446744073709551615 - u) w hu (by omega))) HC w).mono ?_
    rintro e w' ⟨rfl, h⟩
    refine ⟨?_, h⟩
    rw [hA]
    congr 1
  · rw [if_neg (by omega), Bool.and_eq_true] at hk
    have hA : allS 4 t b = bs (allL 4 t b) := by unfold allS; rw [ht, hk.1]; rfl
    refine (make4 t b n u p (allS 4 t b) (bs (numL 8 u)) (allS_le (by decide) ht hk.1) (num8_size _) (Lib.hid (all_any 4 t b hbz)) (Lib.hid (fun w => rise_any u w hu)) HC w).mono ?_
    rintro e w' ⟨rfl, h⟩
    refine ⟨?_, h⟩
    rw [hA]
    congr 1
  · rw [if_neg (by omega), Bool.and_eq_true, if_neg (by omega), if_pos rfl, Bool.and_eq_true, decide_eq_true_eq] at hk
    obtain ⟨m, rfl⟩ := Int.eq_ofNat_of_zero_le (show 0 ≤ p by omega)
    have hA : piecesS t b u = bs (piecesL t b u) := by unfold piecesS; rw [ht, hk.1]; rfl
    have h1 := (bucketB_noZ hk.1).2.2
    refine (make5 t b n u m (piecesS t b u) (bs (numL 1 m)) (by rw [hA, bs_size]; simp [piecesL, allL, begL, numL_length]; omega) (by rw [bs_size, numL_length]; omega) (by omega) (Lib.hid (pieces_any t b u hbz hu)) (Lib.hid (fun w => num_ok 1 m w (by omega) (by omega) (by omega))) HC w).mono ?_
    rintro e w' ⟨rfl, h⟩
    refine ⟨?_, h⟩
    rw [hA]
    congr 1
theorem make_any (k : K) (hb : k.buc.size ≤ maxLen) (hn : k.nam.size ≤ maxLen) (hu : k.num < 18446744073709551616) (w : World) : Calls Try.prog 11 #[kV k] w fun e w' => e = strErr (makeS k) (argE (okK k)) ∧ Below w.heap.size w w' := by
  unfold makeS
  cases hk : okK k with
  | true => exact make_ok k hu hk w
  | false => exact make_bad k hb hn hk w
end Go.Proofs.Yteekjndhehnpaaa
