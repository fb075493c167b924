/- Used and Many leave the world as it was, but for what is drawn. -/
import Derived.Test.YtbgpkddobnldlaaBE
namespace Go.Proofs.Ytbgpkddobnldlaa
open Go.RowKit
theorem usedq_no1 (s : ByteArray) (i : Int) (w : World) (h : s.size ≠ 480) : Calls Try.prog 9 #[.string s, .int .i64 i] w fun e w' => e = .returned (.bool false) ∧ ∃ n, w' = w.drewN n := by
  have H := Lib.hid h
  clear h
  go_enter Try.func9, Try.ntmps9
  go_wp2_with fail
  go_quiet ((go_at_call 22; exact quiet_same (isBitmap_no _ _ H.out)))
  go_wp2
  go_ret
  exact ⟨rfl, _, rfl⟩
theorem usedq_no2 (s : ByteArray) (i : Int) (w : World) (hs : s.size = 480) (h : ¬ (0 ≤ i ∧ i < 3840)) : Calls Try.prog 9 #[.string s, .int .i64 i] w fun e w' => e = .returned (.bool false) ∧ ∃ n, w' = w.drewN n := by
  have H := Lib.hid hs
  have H2 := Lib.hid h
  clear h hs
  go_enter Try.func9, Try.ntmps9
  go_wp2_with fail
  go_quiet ((first | (go_at_call 22; exact quiet_same (isBitmap_yes _ _ H.out)) | (go_at_call 23; exact quiet_same (exists_no _ _ H2.out))))
  go_wp2
  go_ret
  exact ⟨rfl, _, rfl⟩
theorem usedq_yes (s : ByteArray) (i : Nat) (w : World) (hs : s.size = 480) (h : i < 3840) : Calls Try.prog 9 #[.string s, .int .i64 (i : Int)] w fun e w' => e = .returned (.bool (bitL s.data.toList i)) ∧ ∃ n, w' = w.drewN n := by
  have H := Lib.hid hs
  obtain ⟨q, hq⟩ : ∃ q, i / 8 = q := ⟨_, rfl⟩
  have hx : q < s.size := by omega
  have hB := at_bit s i (by omega)
  have hA := and_bit s[i / 8] (i % 8) (by omega)
  have hw : IntKind.i64.wrap ((i : Int) / 8) = (q : Int) := by rw [IntWalk.i64_in _ (by omega)]; omega
  rw [← hB] at hA
  have HA : Hid (((bits .and .u8 (s[q].toNat : Int) ((2 ^ (i % 8) : Nat) : Int)) != 0) = bitL s.data.toList i) := by
    subst hq; exact Lib.hid hA
  clear hs hA hB hq
  go_enter Try.func9, Try.ntmps9
  go_wp2_with fail
  go_quiet ((first | (go_at_call 22; exact quiet_same (isBitmap_yes _ _ H.out)) | (go_at_call 23; exact quiet_same (exists_yes _ _ (by omega) (by omega))) | (go_at_call 25; exact quiet_same (mask_any _ _ h))))
  go_wp2
  go_ret
  exact ⟨ret_bool HA.out, _, rfl⟩
/-- Used, whatever it is asked. -/
theorem usedq_any (s : ByteArray) (i : Int) (w : World) : Calls Try.prog 9 #[.string s, .int .i64 i] w fun e w' => e = .returned (.bool (usedL s.data.toList i)) ∧ ∃ n, w' = w.drewN n := by
  by_cases hs : s.size = 480
  · by_cases h : 0 ≤ i ∧ i < 3840
    · obtain ⟨n, rfl⟩ := Int.eq_ofNat_of_zero_le h.1
      rw [used_bit _ (by rw [← blen]; exact hs) n (by omega)]
      exact usedq_yes s n w hs (by omega)
    · rw [used_not _ _ (fun x => h x.2)]
      exact usedq_no2 s i w hs h
  · rw [used_not _ _ (fun x => hs (by rw [blen]; exact x.1))]
    exact usedq_no1 s i w hs
set_option maxRecDepth 100000 in
set_option maxHeartbeats 400000 in
theorem manyq1 (s : ByteArray) (x : Nat) (b : Int) (w : World) (hx : x < 9223372036854775808) (hb : b ≤ 3840) : Calls Try.prog 11 #[.string s, .int .i64 (x : Int), .int .i64 b] w fun e w' => e = .returned (.int .i64 (manyL s.data.toList (x : Int) b : Nat)) ∧ ∃ n, w' = w.drewN n := by
  obtain ⟨z, hz⟩ : ∃ z : Nat, (z : Int) = max (x : Int) b := ⟨(max (x : Int) b).toNat, by omega⟩
  have hM := many_ends s.data.toList (x : Int) b x z (by omega) (by omega)
  have H0 := Lib.hid hM.1
  have H1 := Lib.hid hM.2
  have HZ := Lib.hid hz
  clear hM hz
  go_enter Try.func11, Try.ntmps11
  go_wp2
  go_loopw [7, 8] (fun n i wx => ∃ (k m : Nat), x ≤ k ∧ k ≤ z ∧ m ≤ k ∧ Hid (m = manyTo s.data.toList (x : Int) b k) ∧ (∃ d, wx = w.drewN d) ∧ n = .int .i64 (m : Int) ∧ i = .int .i64 (k : Int)) (fun _ i _ => z - (intOf i).toNat)
  case atStart => exact ⟨x, 0, by omega, by have := HZ.out; omega, by omega, Lib.hid H0.out.symm, ⟨0, rfl⟩, rfl, rfl⟩
  case round =>
    obtain ⟨k, m, hk1, hk2, hm, HM, ⟨d, rfl⟩, rfl, rfl⟩ := hrel
    by_cases hlt : k < z
    · have hl0 : (k : Int) < b := by have := HZ.out; omega
      have hl1 : (x : Int) ≤ (k : Int) := by omega
      have hl2 : (k : Int) < b := by omega
      have hs := manyTo_succ s.data.toList (x : Int) b k
      rw [← HM.out] at hs
      simp only [hl1, hl2, decide_true, Bool.true_and] at hs
      cases hu : usedL s.data.toList (k : Int) with
      | true =>
        rw [hu] at hs
        have hC := fun w => usedq_any s (k : Int) w
        rw [hu] at hC
        have HS := Lib.hid hs
        have HC := Lib.hid hC
        clear hs hu hC
        go_wp2_with (go_at_call 9; refine (HC.out _).mono ?_; rintro e w1 ⟨rfl, d1, rfl⟩)
        go_roundw
        case rel => exact ⟨k + 1, m + 1, by omega, by omega, by omega, Lib.hid (by rw [HS.out]; rfl), ⟨d + d1, rfl⟩, by go_num, by go_num⟩
        case measure => simp [intOf]; omega
      | false =>
        rw [hu] at hs
        have hC := fun w => usedq_any s (k : Int) w
        rw [hu] at hC
        have HS := Lib.hid hs
        have HC := Lib.hid hC
        clear hs hu hC
        go_wp2_with (go_at_call 9; refine (HC.out _).mono ?_; rintro e w1 ⟨rfl, d1, rfl⟩)
        go_roundw
        case rel => exact ⟨k + 1, m, by omega, by omega, by omega, Lib.hid (by rw [HS.out]; rfl), ⟨d + d1, rfl⟩, by go_num, by go_num⟩
        case measure => simp [intOf]; omega
    · obtain rfl : k = z := by omega
      have hl0 : ¬ (k : Int) < b := by have := HZ.out; omega
      go_wp2
      go_ret
      exact ⟨ret_int (by rw [HM.out]; unfold manyL; rw [H1.out]), d, rfl⟩
set_option maxRecDepth 100000 in
set_option maxHeartbeats 400000 in
theorem manyq2 (s : ByteArray) (x : Nat) (b : Int) (w : World) (hx : x < 9223372036854775808) (hb : 3840 < b) : Calls Try.prog 11 #[.string s, .int .i64 (x : Int), .int .i64 b] w fun e w' => e = .returned (.int .i64 (manyL s.data.toList (x : Int) b : Nat)) ∧ ∃ n, w' = w.drewN n := by
  obtain ⟨z, hz⟩ : ∃ z : Nat, (z : Int) = max (x : Int) 3840 := ⟨(max (x : Int) 3840).toNat, by omega⟩
  have hM := many_ends s.data.toList (x : Int) b x z (by omega) (by omega)
  have H0 := Lib.hid hM.1
  have H1 := Lib.hid hM.2
  have HZ := Lib.hid hz
  clear hM hz
  go_enter Try.func11, Try.ntmps11
  go_wp2
  go_loopw [7, 8] (fun n i wx => ∃ (k m : Nat), x ≤ k ∧ k ≤ z ∧ m ≤ k ∧ Hid (m = manyTo s.data.toList (x : Int) b k) ∧ (∃ d, wx = w.drewN d) ∧ n = .int .i64 (m : Int) ∧ i = .int .i64 (k : Int)) (fun _ i _ => z - (intOf i).toNat)
  case atStart => exact ⟨x, 0, by omega, by have := HZ.out; omega, by omega, Lib.hid H0.out.symm, ⟨0, rfl⟩, rfl, rfl⟩
  case round =>
    obtain ⟨k, m, hk1, hk2, hm, HM, ⟨d, rfl⟩, rfl, rfl⟩ := hrel
    by_cases hlt : k < z
    · have hl0 : (k : Int) < 3840 := by have := HZ.out; omega
      have hl1 : (x : Int) ≤ (k : Int) := by omega
      have hl2 : (k : Int) < b := by omega
      have hs := manyTo_succ s.data.toList (x : Int) b k
      rw [← HM.out] at hs
      simp only [hl1, hl2, decide_true, Bool.true_and] at hs
      cases hu : usedL s.data.toList (k : Int) with
      | true =>
        rw [hu] at hs
        have hC := fun w => usedq_any s (k : Int) w
        rw [hu] at hC
        have HS := Lib.hid hs
        have HC := Lib.hid hC
        clear hs hu hC
        go_wp2_with (go_at_call 9; refine (HC.out _).mono ?_; rintro e w1 ⟨rfl, d1, rfl⟩)
        go_roundw
        case rel => exact ⟨k + 1, m + 1, by omega, by omega, by omega, Lib.hid (by rw [HS.out]; rfl), ⟨d + d1, rfl⟩, by go_num, by go_num⟩
        case measure => simp [intOf]; omega
      | false =>
        rw [hu] at hs
        have hC := fun w => usedq_any s (k : Int) w
        rw [hu] at hC
        have HS := Lib.hid hs
        have HC := Lib.hid hC
        clear hs hu hC
        go_wp2_with (go_at_call 9; refine (HC.out _).mono ?_; rintro e w1 ⟨rfl, d1, rfl⟩)
        go_roundw
        case rel => exact ⟨k + 1, m, by omega, by omega, by omega, Lib.hid (by rw [HS.out]; rfl), ⟨d + d1, rfl⟩, by go_num, by go_num⟩
        case measure => simp [intOf]; omega
    · obtain rfl : k = z := by omega
      have hl0 : ¬ (k : Int) < 3840 := by have := HZ.out; omega
      go_wp2
      go_ret
      exact ⟨ret_int (by rw [HM.out]; unfold manyL; rw [H1.out]), d, rfl⟩
set_option maxRecDepth 100000 in
set_option maxHeartbeats 400000 in
theorem manyq3 (s : ByteArray) (a : Int) (b : Int) (w : World) (ha : a < 0) (hb : b ≤ 3840) : Calls Try.prog 11 #[.string s, .int .i64 a, .int .i64 b] w fun e w' => e = .returned (.int .i64 (manyL s.data.toList a b : Nat)) ∧ ∃ n, w' = w.drewN n := by
  obtain ⟨z, hz⟩ : ∃ z : Nat, (z : Int) = max 0 b := ⟨(max 0 b).toNat, by omega⟩
  have hM := many_ends s.data.toList a b 0 z (by omega) (by omega)
  have H0 := Lib.hid hM.1
  have H1 := Lib.hid hM.2
  have HZ := Lib.hid hz
  clear hM hz
  go_enter Try.func11, Try.ntmps11
  go_wp2
  go_loopw [7, 8] (fun n i wx => ∃ (k m : Nat), k ≤ z ∧ m ≤ k ∧ Hid (m = manyTo s.data.toList a b k) ∧ (∃ d, wx = w.drewN d) ∧ n = .int .i64 (m : Int) ∧ i = .int .i64 (k : Int)) (fun _ i _ => z - (intOf i).toNat)
  case atStart => exact ⟨0, 0, by have := HZ.out; omega, by omega, Lib.hid H0.out.symm, ⟨0, rfl⟩, rfl, rfl⟩
  case round =>
    obtain ⟨k, m, hk2, hm, HM, ⟨d, rfl⟩, rfl, rfl⟩ := hrel
    by_cases hlt : k < z
    · have hl0 : (k : Int) < b := by have := HZ.out; omega
      have hl1 : a ≤ (k : Int) := by omega
      have hl2 : (k : Int) < b := by omega
      have hs := manyTo_succ s.data.toList a b k
      rw [← HM.out] at hs
      simp only [hl1, hl2, decide_true, Bool.true_and] at hs
      cases hu : usedL s.data.toList (k : Int) with
      | true =>
        rw [hu] at hs
        have hC := fun w => usedq_any s (k : Int) w
        rw [hu] at hC
        have HS := Lib.hid hs
        have HC := Lib.hid hC
        clear hs hu hC
        go_wp2_with (go_at_call 9; refine (HC.out _).mono ?_; rintro e w1 ⟨rfl, d1, rfl⟩)
        go_roundw
        case rel => exact ⟨k + 1, m + 1, by omega, by omega, Lib.hid (by rw [HS.out]; rfl), ⟨d + d1, rfl⟩, by go_num, by go_num⟩
        case measure => simp [intOf]; omega
      | false =>
        rw [hu] at hs
        have hC := fun w => usedq_any s (k : Int) w
        rw [hu] at hC
        have HS := Lib.hid hs
        have HC := Lib.hid hC
        clear hs hu hC
        go_wp2_with (go_at_call 9; refine (HC.out _).mono ?_; rintro e w1 ⟨rfl, d1, rfl⟩)
        go_roundw
        case rel => exact ⟨k + 1, m, by omega, by omega, Lib.hid (by rw [HS.out]; rfl), ⟨d + d1, rfl⟩, by go_num, by go_num⟩
        case measure => simp [intOf]; omega
    · obtain rfl : k = z := by omega
      have hl0 : ¬ (k : Int) < b := by have := HZ.out; omega
      go_wp2
      go_ret
      exact ⟨ret_int (by rw [HM.out]; unfold manyL; rw [H1.out]), d, rfl⟩
set_option maxRecDepth 100000 in
set_option maxHeartbeats 400000 in
theorem manyq4 (s : ByteArray) (a : Int) (b : Int) (w : World) (ha : a < 0) (hb : 3840 < b) : Calls Try.prog 11 #[.string s, .int .i64 a, .int .i64 b] w fun e w' => e = .returned (.int .i64 (manyL s.data.toList a b : Nat)) ∧ ∃ n, w' = w.drewN n := by
  obtain ⟨z, hz⟩ : ∃ z : Nat, (z : Int) = max 0 3840 := ⟨3840, by omega⟩
  have hM := many_ends s.data.toList a b 0 z (by omega) (by omega)
  have H0 := Lib.hid hM.1
  have H1 := Lib.hid hM.2
  have HZ := Lib.hid hz
  clear hM hz
  go_enter Try.func11, Try.ntmps11
  go_wp2
  go_loopw [7, 8] (fun n i wx => ∃ (k m : Nat), k ≤ z ∧ m ≤ k ∧ Hid (m = manyTo s.data.toList a b k) ∧ (∃ d, wx = w.drewN d) ∧ n = .int .i64 (m : Int) ∧ i = .int .i64 (k : Int)) (fun _ i _ => z - (intOf i).toNat)
  case atStart => exact ⟨0, 0, by have := HZ.out; omega, by omega, Lib.hid H0.out.symm, ⟨0, rfl⟩, rfl, rfl⟩
  case round =>
    obtain ⟨k, m, hk2, hm, HM, ⟨d, rfl⟩, rfl, rfl⟩ := hrel
    by_cases hlt : k < z
    · have hl0 : (k : Int) < 3840 := by have := HZ.out; omega
      have hl1 : a ≤ (k : Int) := by omega
      have hl2 : (k : Int) < b := by omega
      have hs := manyTo_succ s.data.toList a b k
      rw [← HM.out] at hs
      simp only [hl1, hl2, decide_true, Bool.true_and] at hs
      cases hu : usedL s.data.toList (k : Int) with
      | true =>
        rw [hu] at hs
        have hC := fun w => usedq_any s (k : Int) w
        rw [hu] at hC
        have HS := Lib.hid hs
        have HC := Lib.hid hC
        clear hs hu hC
        go_wp2_with (go_at_call 9; refine (HC.out _).mono ?_; rintro e w1 ⟨rfl, d1, rfl⟩)
        go_roundw
        case rel => exact ⟨k + 1, m + 1, by omega, by omega, Lib.hid (by rw [HS.out]; rfl), ⟨d + d1, rfl⟩, by go_num, by go_num⟩
        case measure => simp [intOf]; omega
      | false =>
        rw [hu] at hs
        have hC := fun w => usedq_any s (k : Int) w
        rw [hu] at hC
        have HS := Lib.hid hs
        have HC := Lib.hid hC
        clear hs hu hC
        go_wp2_with (go_at_call 9; refine (HC.out _).mono ?_; rintro e w1 ⟨rfl, d1, rfl⟩)
        go_roundw
        case rel => exact ⟨k + 1, m, by omega, by omega, Lib.hid (by rw [HS.out]; rfl), ⟨d + d1, rfl⟩, by go_num, by go_num⟩
        case measure => simp [intOf]; omega
    · obtain rfl : k = z := by omega
      have hl0 : ¬ (k : Int) < 3840 := by have := HZ.out; omega
      go_wp2
      go_ret
      exact ⟨ret_int (by rw [HM.out]; unfold manyL; rw [H1.out]), d, rfl⟩
theorem manyq_any (s : ByteArray) (a b : Int) (w : World) (ha : a < 9223372036854775808) : Calls Try.prog 11 #[.string s, .int .i64 a, .int .i64 b] w fun e w' => e = .returned (.int .i64 (manyL s.data.toList a b : Nat)) ∧ ∃ n, w' = w.drewN n := by
  by_cases h1 : a < 0
  · by_cases h2 : b ≤ 3840
    · exact manyq3 s a b w h1 h2
    · exact manyq4 s a b w h1 (by omega)
  · obtain ⟨x, rfl⟩ := Int.eq_ofNat_of_zero_le (show 0 ≤ a by omega)
    by_cases h2 : b ≤ 3840
    · exact manyq1 s x b w (by omega) h2
    · exact manyq2 s x b w (by omega) (by omega)
end Go.Proofs.Ytbgpkddobnldlaa
