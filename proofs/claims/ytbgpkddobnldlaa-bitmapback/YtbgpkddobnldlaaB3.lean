/- Contracts: the reference's Used and Set; Many. -/
import Derived.Test.YtbgpkddobnldlaaB2
namespace Go.Proofs.Ytbgpkddobnldlaa
open Go.RowKit
theorem rused_no (s : ByteArray) (i : Int) (w : World) (h : ¬ (s.size = 480 ∧ 0 ≤ i ∧ i < 3840)) : Calls Try.prog 10 #[.string s, .int .i64 i] w fun e w' => e = .returned (.bool false) ∧ w = w' := by
  by_cases hs : s.size = 480
  · have hd : ((s.size : Int) != 480) = false := by rw [bne_eq_false_iff_eq]; omega
    by_cases h1 : i < 0
    · clear h hs
      go_enter Try.func10, Try.ntmps10
      go_wp2
      go_ret
      exact ⟨rfl, rfl⟩
    · have h2 : 3839 < i := by omega
      clear h hs
      go_enter Try.func10, Try.ntmps10
      go_wp2
      go_ret
      exact ⟨rfl, rfl⟩
  · have hd : ((s.size : Int) != 480) = true := by rw [bne_iff_ne]; omega
    clear h hs
    go_enter Try.func10, Try.ntmps10
    go_wp2
    go_ret
    exact ⟨rfl, rfl⟩
theorem div_two (c k : Nat) : c / 2 ^ k / 2 = c / 2 ^ (k + 1) := by rw [Nat.div_div_eq_div_mul, Nat.pow_succ]
theorem odd_bit (s : ByteArray) (i k v : Nat) (h : i / 8 < s.size) (hk : k = i % 8) (hv : v = s[i / 8].toNat / 2 ^ k) : ((v : Int) % 2 == 1) = bitL s.data.toList i := by
  rw [at_bit s i h]; unfold bitC; subst hk; rw [← hv, Bool.eq_iff_iff]; simp; omega
theorem rused_yes (s : ByteArray) (i : Nat) (w : World) (hs : s.size = 480) (h : i < 3840) : Calls Try.prog 10 #[.string s, .int .i64 (i : Int)] w fun e w' => e = .returned (.bool (bitL s.data.toList i)) ∧ w = w' := by
  have hd : ((s.size : Int) != 480) = false := by rw [bne_eq_false_iff_eq]; omega
  have hx : i / 8 < s.size := by omega
  have h0 : ¬ (3839 : Int) < (i : Int) := by omega
  have hc : s[i / 8].toNat < 256 := s[i / 8].toNat_lt
  clear hs
  go_enter Try.func10, Try.ntmps10
  go_wp2
  go_loop [5, 6] (fun b j => ∃ k v : Nat, k ≤ i % 8 ∧ v < 256 ∧ Hid (v = s[i / 8].toNat / 2 ^ k) ∧ b = .int .i64 (v : Int) ∧ j = .int .i64 (k : Int)) (fun _ j => i % 8 - (intOf j).toNat)
  case atStart => exact ⟨0, s[i / 8].toNat, by omega, s[i / 8].toNat_lt, Lib.hid (by simp), rfl, rfl⟩
  case round =>
    obtain ⟨k, v, hk, hv, HV, rfl, rfl⟩ := hrel
    by_cases hlt : k < i % 8
    · have hlt' : (k : Int) < (i : Int) % 8 := by omega
      go_wp2
      go_round
      case rel => exact ⟨k + 1, v / 2, by omega, by omega, Lib.hid (by rw [HV.out, div_two]), by go_num, by go_num⟩
      case measure => simp [intOf]; omega
    · have hlt' : ¬ (k : Int) < (i : Int) % 8 := by omega
      have HE := Lib.hid (odd_bit s i k v hx (by omega) HV.out)
      go_wp2
      go_ret
      exact ⟨ret_bool HE.out, rfl⟩
theorem rused_any (s : ByteArray) (i : Int) (w : World) : Calls Try.prog 10 #[.string s, .int .i64 i] w fun e w' => e = .returned (.bool (usedL s.data.toList i)) ∧ w = w' := by
  by_cases h : s.size = 480 ∧ 0 ≤ i ∧ i < 3840
  · obtain ⟨n, rfl⟩ := Int.eq_ofNat_of_zero_le h.2.1
    rw [used_bit _ (by rw [← blen]; exact h.1) n (by omega)]
    exact rused_yes s n w h.1 (by omega)
  · rw [used_not _ _ (fun x => h (by rw [blen]; exact x))]
    exact rused_no s i w h
theorem many_ends (l : List UInt8) (a b : Int) (x z : Nat) (hx : max a 0 = (x : Int)) (hz : (z : Int) = max (x : Int) (min b 3840)) : manyTo l a b x = 0 ∧ manyTo l a b 3840 = manyTo l a b z := by
  have h0 := manyTo_zero l a b x (fun j hj => by omega)
  refine ⟨h0, ?_⟩
  by_cases h : z ≤ 3840
  · exact manyTo_end l a b z 3840 h (fun j h1 h2 => by omega)
  · obtain rfl : z = x := by omega
    rw [h0]
    exact manyTo_zero l a b 3840 (fun j hj => by omega)
set_option maxRecDepth 100000 in
set_option maxHeartbeats 400000 in
theorem many1 (s : ByteArray) (x : Nat) (b : Int) (w : World) (hx : x < 9223372036854775808) (hb : b ≤ 3840) : Calls Try.prog 11 #[.string s, .int .i64 (x : Int), .int .i64 b] w fun e w' => e = .returned (.int .i64 (manyL s.data.toList (x : Int) b : Nat)) ∧ Below w.heap.size w w' := by
  obtain ⟨z, hz⟩ : ∃ z : Nat, (z : Int) = max (x : Int) b := ⟨(max (x : Int) b).toNat, by omega⟩
  have hM := many_ends s.data.toList (x : Int) b x z (by omega) (by omega)
  have H0 := Lib.hid hM.1
  have H1 := Lib.hid hM.2
  have HZ := Lib.hid hz
  clear hM hz
  go_enter Try.func11, Try.ntmps11
  go_wp2
  go_loopw [7, 8] (fun n i wx => ∃ (k m : Nat), x ≤ k ∧ k ≤ z ∧ m ≤ k ∧ Hid (m = manyTo s.data.toList (x : Int) b k) ∧ Below w.heap.size w wx ∧ n = .int .i64 (m : Int) ∧ i = .int .i64 (k : Int)) (fun _ i _ => z - (intOf i).toNat)
  case atStart => exact ⟨x, 0, by omega, by have := HZ.out; omega, by omega, Lib.hid H0.out.symm, Below.refl _ _, rfl, rfl⟩
  case round =>
    obtain ⟨k, m, hk1, hk2, hm, HM, HB, rfl, rfl⟩ := hrel
    by_cases hlt : k < z
    · have hl0 : (k : Int) < b := by have := HZ.out; omega
      have hl1 : (x : Int) ≤ (k : Int) := by omega
      have hl2 : (k : Int) < b := by omega
      have hs := manyTo_succ s.data.toList (x : Int) b k
      rw [← HM.out] at hs
      simp only [hl1, hl2, decide_true, Bool.true_and] at hs
      cases hu : usedL s.data.toList (k : Int) with
      | true =>
        rw [hu] at hs
        have hC := fun w => used_any s (k : Int) w
        rw [hu] at hC
        have HS := Lib.hid hs
        have HC := Lib.hid hC
        clear hs hu hC
        go_wp2_with (go_at_call 9; refine (HC.out _).mono ?_; rintro e w1 ⟨rfl, hb⟩)
        have HB1 := below_to HB hb
        clear hb
        go_roundw
        case rel => exact ⟨k + 1, m + 1, by omega, by omega, by omega, Lib.hid (by rw [HS.out]; rfl), HB1, by go_num, by go_num⟩
        case measure => simp [intOf]; omega
      | false =>
        rw [hu] at hs
        have hC := fun w => used_any s (k : Int) w
        rw [hu] at hC
        have HS := Lib.hid hs
        have HC := Lib.hid hC
        clear hs hu hC
        go_wp2_with (go_at_call 9; refine (HC.out _).mono ?_; rintro e w1 ⟨rfl, hb⟩)
        have HB1 := below_to HB hb
        clear hb
        go_roundw
        case rel => exact ⟨k + 1, m, by omega, by omega, by omega, Lib.hid (by rw [HS.out]; rfl), HB1, by go_num, by go_num⟩
        case measure => simp [intOf]; omega
    · obtain rfl : k = z := by omega
      have hl0 : ¬ (k : Int) < b := by have := HZ.out; omega
      go_wp2
      go_ret
      exact ⟨ret_int (by rw [HM.out]; unfold manyL; rw [H1.out]), HB⟩
set_option maxRecDepth 100000 in
set_option maxHeartbeats 400000 in
theorem many2 (s : ByteArray) (x : Nat) (b : Int) (w : World) (hx : x < 9223372036854775808) (hb : 3840 < b) : Calls Try.prog 11 #[.string s, .int .i64 (x : Int), .int .i64 b] w fun e w' => e = .returned (.int .i64 (manyL s.data.toList (x : Int) b : Nat)) ∧ Below w.heap.size w w' := by
  obtain ⟨z, hz⟩ : ∃ z : Nat, (z : Int) = max (x : Int) 3840 := ⟨(max (x : Int) 3840).toNat, by omega⟩
  have hM := many_ends s.data.toList (x : Int) b x z (by omega) (by omega)
  have H0 := Lib.hid hM.1
  have H1 := Lib.hid hM.2
  have HZ := Lib.hid hz
  clear hM hz
  go_enter Try.func11, Try.ntmps11
  go_wp2
  go_loopw [7, 8] (fun n i wx => ∃ (k m : Nat), x ≤ k ∧ k ≤ z ∧ m ≤ k ∧ Hid (m = manyTo s.data.toList (x : Int) b k) ∧ Below w.heap.size w wx ∧ n = .int .i64 (m : Int) ∧ i = .int .i64 (k : Int)) (fun _ i _ => z - (intOf i).toNat)
  case atStart => exact ⟨x, 0, by omega, by have := HZ.out; omega, by omega, Lib.hid H0.out.symm, Below.refl _ _, rfl, rfl⟩
  case round =>
    obtain ⟨k, m, hk1, hk2, hm, HM, HB, rfl, rfl⟩ := hrel
    by_cases hlt : k < z
    · have hl0 : (k : Int) < 3840 := by have := HZ.out; omega
      have hl1 : (x : Int) ≤ (k : Int) := by omega
      have hl2 : (k : Int) < b := by omega
      have hs := manyTo_succ s.data.toList (x : Int) b k
      rw [← HM.out] at hs
      simp only [hl1, hl2, decide_true, Bool.true_and] at hs
      cases hu : usedL s.data.toList (k : Int) with
      | true =>
        rw [hu] at hs
        have hC := fun w => used_any s (k : Int) w
        rw [hu] at hC
        have HS := Lib.hid hs
        have HC := Lib.hid hC
        clear hs hu hC
        go_wp2_with (go_at_call 9; refine (HC.out _).mono ?_; rintro e w1 ⟨rfl, hb⟩)
        have HB1 := below_to HB hb
        clear hb
        go_roundw
        case rel => exact ⟨k + 1, m + 1, by omega, by omega, by omega, Lib.hid (by rw [HS.out]; rfl), HB1, by go_num, by go_num⟩
        case measure => simp [intOf]; omega
      | false =>
        rw [hu] at hs
        have hC := fun w => used_any s (k : Int) w
        rw [hu] at hC
        have HS := Lib.hid hs
        have HC := Lib.hid hC
        clear hs hu hC
        go_wp2_with (go_at_call 9; refine (HC.out _).mono ?_; rintro e w1 ⟨rfl, hb⟩)
        have HB1 := below_to HB hb
        clear hb
        go_roundw
        case rel => exact ⟨k + 1, m, by omega, by omega, by omega, Lib.hid (by rw [HS.out]; rfl), HB1, by go_num, by go_num⟩
        case measure => simp [intOf]; omega
    · obtain rfl : k = z := by omega
      have hl0 : ¬ (k : Int) < 3840 := by have := HZ.out; omega
      go_wp2
      go_ret
      exact ⟨ret_int (by rw [HM.out]; unfold manyL; rw [H1.out]), HB⟩
set_option maxRecDepth 100000 in
set_option maxHeartbeats 400000 in
theorem many3 (s : ByteArray) (a : Int) (b : Int) (w : World) (ha : a < 0) (hb : b ≤ 3840) : Calls Try.prog 11 #[.string s, .int .i64 a, .int .i64 b] w fun e w' => e = .returned (.int .i64 (manyL s.data.toList a b : Nat)) ∧ Below w.heap.size w w' := by
  obtain ⟨z, hz⟩ : ∃ z : Nat, (z : Int) = max 0 b := ⟨(max 0 b).toNat, by omega⟩
  have hM := many_ends s.data.toList a b 0 z (by omega) (by omega)
  have H0 := Lib.hid hM.1
  have H1 := Lib.hid hM.2
  have HZ := Lib.hid hz
  clear hM hz
  go_enter Try.func11, Try.ntmps11
  go_wp2
  go_loopw [7, 8] (fun n i wx => ∃ (k m : Nat), k ≤ z ∧ m ≤ k ∧ Hid (m = manyTo s.data.toList a b k) ∧ Below w.heap.size w wx ∧ n = .int .i64 (m : Int) ∧ i = .int .i64 (k : Int)) (fun _ i _ => z - (intOf i).toNat)
  case atStart => exact ⟨0, 0, by have := HZ.out; omega, by omega, Lib.hid H0.out.symm, Below.refl _ _, rfl, rfl⟩
  case round =>
    obtain ⟨k, m, hk2, hm, HM, HB, rfl, rfl⟩ := hrel
    by_cases hlt : k < z
    · have hl0 : (k : Int) < b := by have := HZ.out; omega
      have hl1 : a ≤ (k : Int) := by omega
      have hl2 : (k : Int) < b := by omega
      have hs := manyTo_succ s.data.toList a b k
      rw [← HM.out] at hs
      simp only [hl1, hl2, decide_true, Bool.true_and] at hs
      cases hu : usedL s.data.toList (k : Int) with
      | true =>
        rw [hu] at hs
        have hC := fun w => used_any s (k : Int) w
        rw [hu] at hC
        have HS := Lib.hid hs
        have HC := Lib.hid hC
        clear hs hu hC
        go_wp2_with (go_at_call 9; refine (HC.out _).mono ?_; rintro e w1 ⟨rfl, hb⟩)
        have HB1 := below_to HB hb
        clear hb
        go_roundw
        case rel => exact ⟨k + 1, m + 1, by omega, by omega, Lib.hid (by rw [HS.out]; rfl), HB1, by go_num, by go_num⟩
        case measure => simp [intOf]; omega
      | false =>
        rw [hu] at hs
        have hC := fun w => used_any s (k : Int) w
        rw [hu] at hC
        have HS := Lib.hid hs
        have HC := Lib.hid hC
        clear hs hu hC
        go_wp2_with (go_at_call 9; refine (HC.out _).mono ?_; rintro e w1 ⟨rfl, hb⟩)
        have HB1 := below_to HB hb
        clear hb
        go_roundw
        case rel => exact ⟨k + 1, m, by omega, by omega, Lib.hid (by rw [HS.out]; rfl), HB1, by go_num, by go_num⟩
        case measure => simp [intOf]; omega
    · obtain rfl : k = z := by omega
      have hl0 : ¬ (k : Int) < b := by have := HZ.out; omega
      go_wp2
      go_ret
      exact ⟨ret_int (by rw [HM.out]; unfold manyL; rw [H1.out]), HB⟩
set_option maxRecDepth 100000 in
set_option maxHeartbeats 400000 in
theorem many4 (s : ByteArray) (a : Int) (b : Int) (w : World) (ha : a < 0) (hb : 3840 < b) : Calls Try.prog 11 #[.string s, .int .i64 a, .int .i64 b] w fun e w' => e = .returned (.int .i64 (manyL s.data.toList a b : Nat)) ∧ Below w.heap.size w w' := by
  obtain ⟨z, hz⟩ : ∃ z : Nat, (z : Int) = max 0 3840 := ⟨3840, by omega⟩
  have hM := many_ends s.data.toList a b 0 z (by omega) (by omega)
  have H0 := Lib.hid hM.1
  have H1 := Lib.hid hM.2
  have HZ := Lib.hid hz
  clear hM hz
  go_enter Try.func11, Try.ntmps11
  go_wp2
  go_loopw [7, 8] (fun n i wx => ∃ (k m : Nat), k ≤ z ∧ m ≤ k ∧ Hid (m = manyTo s.data.toList a b k) ∧ Below w.heap.size w wx ∧ n = .int .i64 (m : Int) ∧ i = .int .i64 (k : Int)) (fun _ i _ => z - (intOf i).toNat)
  case atStart => exact ⟨0, 0, by have := HZ.out; omega, by omega, Lib.hid H0.out.symm, Below.refl _ _, rfl, rfl⟩
  case round =>
    obtain ⟨k, m, hk2, hm, HM, HB, rfl, rfl⟩ := hrel
    by_cases hlt : k < z
    · have hl0 : (k : Int) < 3840 := by have := HZ.out; omega
      have hl1 : a ≤ (k : Int) := by omega
      have hl2 : (k : Int) < b := by omega
      have hs := manyTo_succ s.data.toList a b k
      rw [← HM.out] at hs
      simp only [hl1, hl2, decide_true, Bool.true_and] at hs
      cases hu : usedL s.data.toList (k : Int) with
      | true =>
        rw [hu] at hs
        have hC := fun w => used_any s (k : Int) w
        rw [hu] at hC
        have HS := Lib.hid hs
        have HC := Lib.hid hC
        clear hs hu hC
        go_wp2_with (go_at_call 9; refine (HC.out _).mono ?_; rintro e w1 ⟨rfl, hb⟩)
        have HB1 := below_to HB hb
        clear hb
        go_roundw
        case rel => exact ⟨k + 1, m + 1, by omega, by omega, Lib.hid (by rw [HS.out]; rfl), HB1, by go_num, by go_num⟩
        case measure => simp [intOf]; omega
      | false =>
        rw [hu] at hs
        have hC := fun w => used_any s (k : Int) w
        rw [hu] at hC
        have HS := Lib.hid hs
        have HC := Lib.hid hC
        clear hs hu hC
        go_wp2_with (go_at_call 9; refine (HC.out _).mono ?_; rintro e w1 ⟨rfl, hb⟩)
        have HB1 := below_to HB hb
        clear hb
        go_roundw
        case rel => exact ⟨k + 1, m, by omega, by omega, Lib.hid (by rw [HS.out]; rfl), HB1, by go_num, by go_num⟩
        case measure => simp [intOf]; omega
    · obtain rfl : k = z := by omega
      have hl0 : ¬ (k : Int) < 3840 := by have := HZ.out; omega
      go_wp2
      go_ret
      exact ⟨ret_int (by rw [HM.out]; unfold manyL; rw [H1.out]), HB⟩
theorem many_any (s : ByteArray) (a b : Int) (w : World) (ha : a < 9223372036854775808) : Calls Try.prog 11 #[.string s, .int .i64 a, .int .i64 b] w fun e w' => e = .returned (.int .i64 (manyL s.data.toList a b : Nat)) ∧ Below w.heap.size w w' := by
  by_cases h1 : a < 0
  · by_cases h2 : b ≤ 3840
    · exact many3 s a b w h1 h2
    · exact many4 s a b w h1 (by omega)
  · obtain ⟨x, rfl⟩ := Int.eq_ofNat_of_zero_le (show 0 ≤ a by omega)
    by_cases h2 : b ≤ 3840
    · exact many1 s x b w (by omega) h2
    · exact many2 s x b w (by omega) (by omega)
end Go.Proofs.Ytbgpkddobnldlaa
