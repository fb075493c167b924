/- Contracts: texts, padding, zero bytes. -/
import Derived.Test.YtgbnmokajaehhaaO6
import Derived.Test.YtgbnmokajaehhaaShelf
namespace Go.Proofs.Ytgbnmokajaehhaa
open Go.RowKit
/-- Two answers: a number and an error; a text and an error. -/
def numErr (n : Nat) (e : Int) : Ending := .returned (.tuple #[.int .u64 (n : Int), .int .i64 e])
def strErr (s : ByteArray) (e : Int) : Ending := .returned (.tuple #[.string s, .int .i64 e])
theorem numErr_of {a b : Int} {n : Nat} {e : Int} (h1 : a = n) (h2 : b = e) : Ending.returned (.tuple #[.int .u64 a, .int .i64 b]) = numErr n e := by subst h1 h2; rfl
theorem ofRise_ok (s : ByteArray) (w : World) (hs : s.size = 8) : Calls Try.prog 14 #[.string s] w fun e w' => e = numErr (ofL s.data.toList) 0 ∧ w = w' := by
  have h8 : s.size ≤ 8 := by omega
  have h9 : 8 ≤ s.size := by omega
  have hd : ((s.size : Int) != 8) = false := by rw [bne_eq_false_iff_eq]; omega
  clear hs
  go_enter Try.func14, Try.ntmps14
  go_wp2_with (go_at_call 48; refine (number_any _ _ h8).mono ?_; rintro e w' ⟨rfl, rfl⟩)
  go_ret2
  exact ⟨rfl, rfl⟩
theorem ofRise_no (s : ByteArray) (w : World) (hs : s.size ≠ 8) : Calls Try.prog 14 #[.string s] w fun e w' => e = numErr 0 19 ∧ w = w' := by
  have hd : ((s.size : Int) != 8) = true := by rw [bne_iff_ne]; omega
  clear hs
  go_enter Try.func14, Try.ntmps14
  go_wp2
  go_ret2
  exact ⟨rfl, rfl⟩
theorem ofFall_ok (s : ByteArray) (n f : Nat) (w : World) (hs : s.size = 8) (hn : ofL s.data.toList = n) (hf : n + f = 18446744073709551615) : Calls Try.prog 16 #[.string s] w fun e w' => e = numErr f 0 ∧ w = w' := by
  have hx : bits .xor .u64 IntKind.u64.max (n : Int) = (f : Int) := by rw [u64_not n (by omega)]; omega
  have HC := fun w' => ofRise_ok s w' hs
  rw [hn] at HC
  have HC := Lib.hid HC
  clear hn hs hf
  rename Hid _ => HC
  go_enter Try.func16, Try.ntmps16
  go_wp2_with (go_at_call 14; refine (HC.out _).mono ?_; rintro e w' ⟨rfl, rfl⟩; unfold numErr)
  go_ret2
  exact ⟨rfl, rfl⟩
theorem ofFall_no (s : ByteArray) (w : World) (hs : s.size ≠ 8) : Calls Try.prog 16 #[.string s] w fun e w' => e = numErr 0 19 ∧ w = w' := by
  have HS := Lib.hid hs
  clear hs
  go_enter Try.func16, Try.ntmps16
  go_wp2_with (go_at_call 14; refine (ofRise_no _ _ HS.out).mono ?_; rintro e w' ⟨rfl, rfl⟩; unfold numErr)
  go_ret2
  exact ⟨rfl, rfl⟩
/-- A text's bytes. -/
def textB (s : ByteArray) : ByteArray := bs (numL 2 s.size) ++ s
theorem text_ok (s : ByteArray) (w : World) (hs : s.size ≤ 65535) : Calls Try.prog 12 #[.string s] w fun e w' => e = strErr (textB s) 0 ∧ Below w.heap.size w w' := by
  have hb2 : (bs (numL 2 s.size)).size = 2 := by rw [bs_size, numL_length]
  go_enter Try.func12, Try.ntmps12
  go_wp2_with (go_at_call 17; refine (num_ok 2 s.size _ (by omega) (by omega) (by omega)).mono ?_; rintro e w1 ⟨rfl, hb⟩)
  go_ret2
  exact ⟨rfl, hb⟩
theorem text_no (s : ByteArray) (w : World) (hs : 65535 < s.size) : Calls Try.prog 12 #[.string s] w fun e w' => e = strErr ByteArray.empty 11 ∧ w = w' := by
  go_enter Try.func12, Try.ntmps12
  go_wp2
  go_ret2
  exact ⟨rfl, rfl⟩
theorem rtextB_ok (s : ByteArray) (w : World) (hs : s.size ≤ 65535) : Calls Try.prog 13 #[.string s] w fun e w' => e = strErr (textB s) 0 ∧ Below w.heap.size w w' := by
  have hb2 : (bs (numL 2 s.size)).size = 2 := by rw [bs_size, numL_length]
  go_enter Try.func13, Try.ntmps13
  go_wp2_with (go_at_call 18; refine (rnum_ok 2 s.size _ (by omega) (by omega) (by omega)).mono ?_; rintro e w1 ⟨rfl, hb⟩)
  go_ret2
  exact ⟨rfl, hb⟩
theorem rtextB_no (s : ByteArray) (w : World) (hs : 65535 < s.size) : Calls Try.prog 13 #[.string s] w fun e w' => e = strErr ByteArray.empty 11 ∧ w = w' := by
  go_enter Try.func13, Try.ntmps13
  go_wp2
  go_ret2
  exact ⟨rfl, rfl⟩
/-- Zero bytes alone? -/
def allZ (l : List UInt8) : Bool := l.all (· == 0)
theorem allZ_bad (s : ByteArray) (k : Nat) (hk : k < s.size) (h : ((s[k].toNat : Int) != 0) = true) : allZ s.data.toList = false := by
  unfold allZ
  rw [List.all_eq_false]
  refine ⟨s[k], ?_, ?_⟩
  · have : s[k] = s.data.toList[k]'(by simpa using hk) := by simp [ByteArray.getElem_eq_getElem_data]
    rw [this]; exact List.getElem_mem _
  · intro h0
    rw [beq_iff_eq] at h0
    rw [h0] at h
    simp at h
theorem allZ_snoc (s : ByteArray) (k : Nat) (hk : k < s.size) (h : ((s[k].toNat : Int) != 0) = false) (h1 : allZ (s.data.toList.take k) = true) : allZ (s.data.toList.take (k + 1)) = true := by
  rw [take_snoc8 s k hk]
  unfold allZ at h1 ⊢
  rw [List.all_append, h1]
  simp
  rw [bne_eq_false_iff_eq] at h
  apply UInt8.toNat_inj.1
  simpa using h
theorem noughts_any (s : ByteArray) (w : World) (hs : s.size ≤ maxLen) : Calls Try.prog 26 #[.string s] w fun e w' => e = .returned (.bool (allZ s.data.toList)) ∧ w = w' := by
  replace hs : s.size ≤ 9223372036854775807 := hs
  go_enter Try.func26, Try.ntmps26
  go_wp2
  go_loop [6] (fun i => ∃ k : Nat, k ≤ s.size ∧ Hid (allZ (s.data.toList.take k) = true) ∧ i = .int .i64 k) (fun i => s.size - (intOf i).toNat)
  case atStart => exact ⟨0, by omega, Lib.hid rfl, rfl⟩
  case round =>
    obtain ⟨k, hk, HZ, rfl⟩ := hrel
    by_cases hlt : k < s.size
    · by_cases hc : ((s[k].toNat : Int) != 0) = true
      · have hz := Lib.hid (allZ_bad s k hlt hc)
        go_wp2
        go_ret
        exact ⟨ret_bool hz.out.symm, rfl⟩
      · rw [Bool.not_eq_true] at hc
        have hz := Lib.hid (allZ_snoc s k hlt hc HZ.out)
        go_wp2
        go_round
        case rel => exact ⟨k + 1, by omega, hz, by go_num⟩
        case measure => simp [intOf]; omega
    · have ht := Lib.hid (List.take_of_length_le (l := s.data.toList) (i := k) (by simp; omega))
      go_wp2
      go_ret
      exact ⟨ret_bool (by rw [← ht.out]; exact HZ.out.symm), rfl⟩
theorem rnoughts_any (s : ByteArray) (w : World) (hs : s.size ≤ maxLen) : Calls Try.prog 27 #[.string s] w fun e w' => e = .returned (.bool (allZ s.data.toList)) ∧ w = w' := by
  replace hs : s.size ≤ 9223372036854775807 := hs
  go_enter Try.func27, Try.ntmps27
  go_wp2
  go_loop [3] (fun i => ∃ k : Nat, k ≤ s.size ∧ Hid (allZ (s.data.toList.take k) = true) ∧ i = .int .i64 k) (fun i => s.size - (intOf i).toNat)
  case atStart => exact ⟨0, by omega, Lib.hid rfl, rfl⟩
  case round =>
    obtain ⟨k, hk, HZ, rfl⟩ := hrel
    by_cases hlt : k < s.size
    · by_cases hc : ((s[k].toNat : Int) != 0) = true
      · have hz := Lib.hid (allZ_bad s k hlt hc)
        go_wp2
        go_ret
        exact ⟨ret_bool hz.out.symm, rfl⟩
      · rw [Bool.not_eq_true] at hc
        have hz := Lib.hid (allZ_snoc s k hlt hc HZ.out)
        go_wp2
        go_round
        case rel => exact ⟨k + 1, by omega, hz, by go_num⟩
        case measure => simp [intOf]; omega
    · have ht := Lib.hid (List.take_of_length_le (l := s.data.toList) (i := k) (by simp; omega))
      go_wp2
      go_ret
      exact ⟨ret_bool (by rw [← ht.out]; exact HZ.out.symm), rfl⟩
/-- Padded. -/
def padB (s : ByteArray) (n : Int) : ByteArray := if 65536 < n ∨ n ≤ (s.size : Int) then s else s ++ bs (List.replicate (n - s.size).toNat 0)
theorem repeat_zero (c : Nat) : Lib.repeatL (ByteArray.mk #[0]).data.toList c = List.replicate c 0 := by
  induction c with
  | zero => rfl
  | succ c ih => rw [List.replicate_succ, ← ih]; rfl
theorem rep_any (c : Nat) (w : World) (hc : c ≤ 65536) : Calls Try.prog 50 #[.string ⟨#[0]⟩, .int .i64 (c : Int)] w fun e w' => e = .returned (.string (bs (List.replicate c 0))) ∧ Below w.heap.size w w' := by
  have h1 : (ByteArray.mk #[0]).size = 1 := by decide
  refine (Try.strings_Repeat ⟨#[0]⟩ c w (by omega) (by rw [h1]; omega)).mono ?_
  rintro e w' ⟨rfl, hb⟩
  exact ⟨by rw [repeat_zero]; rfl, hb⟩
theorem pad_same (s : ByteArray) (n : Int) (w : World) (h : 65536 < n ∨ n ≤ (s.size : Int)) (hs : s.size ≤ maxLen) : Calls Try.prog 21 #[.string s, .int .i64 n] w fun e w' => e = .returned (.string s) ∧ w = w' := by
  replace hs : s.size ≤ 9223372036854775807 := hs
  by_cases h1 : 65536 < n
  · go_enter Try.func21, Try.ntmps21
    go_wp2
    go_ret
    exact ⟨rfl, rfl⟩
  · have h2 : n ≤ (s.size : Int) := by omega
    clear h
    go_enter Try.func21, Try.ntmps21
    go_wp2
    go_ret
    exact ⟨rfl, rfl⟩
theorem pad_more (s : ByteArray) (n : Int) (w : World) (h1 : n ≤ 65536) (h2 : (s.size : Int) < n) : Calls Try.prog 21 #[.string s, .int .i64 n] w fun e w' => e = .returned (.string (s ++ bs (List.replicate (n - s.size).toNat 0))) ∧ Below w.heap.size w w' := by
  obtain ⟨c, hc⟩ : ∃ c : Nat, n - (s.size : Int) = (c : Int) := ⟨(n - s.size).toNat, by omega⟩
  have hc1 : c ≤ 65536 := by omega
  have hsz : (bs (List.replicate c 0)).size = c := by rw [bs_size]; simp
  have hsz' : (bs (List.replicate c 0)).size ≤ 65536 := by omega
  have HS := Lib.hid hsz
  rw [hc, Int.toNat_natCast]
  clear hsz
  go_enter Try.func21, Try.ntmps21
  go_wp2_with (go_at_call 50; refine (rep_any c _ hc1).mono ?_; rintro e w1 ⟨rfl, hb⟩)
  go_ret
  exact ⟨rfl, hb⟩
end Go.Proofs.Ytgbnmokajaehhaa
