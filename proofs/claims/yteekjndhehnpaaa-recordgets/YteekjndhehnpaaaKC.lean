/- Contracts: names. -/
import Derived.Test.YteekjndhehnpaaaKB
namespace Go.Proofs.Yteekjndhehnpaaa
open Go.RowKit
set_option maxRecDepth 100000
set_option linter.unusedVariables false
theorem isLower_any (c : Nat) (w : World) : Calls Try.prog 103 #[.int .u8 (c : Int)] w fun e w' => e = .returned (.bool (lowB c)) ∧ w = w' := by
  unfold lowB
  by_cases h1 : 97 ≤ c
  · by_cases h2 : c ≤ 122 <;>
    · go_enter Try.func103, Try.ntmps103
      go_wp2
      go_ret
      exact ⟨ret_bool (by simp [h1, h2]; try omega), rfl⟩
  · go_enter Try.func103, Try.ntmps103
    go_wp2
    go_ret
    exact ⟨ret_bool (by simp; try omega), rfl⟩
theorem isDigit_any (c : Nat) (w : World) : Calls Try.prog 104 #[.int .u8 (c : Int)] w fun e w' => e = .returned (.bool (digB c)) ∧ w = w' := by
  unfold digB
  by_cases h1 : 48 ≤ c
  · by_cases h2 : c ≤ 57 <;>
    · go_enter Try.func104, Try.ntmps104
      go_wp2
      go_ret
      exact ⟨ret_bool (by simp [h1, h2]; try omega), rfl⟩
  · go_enter Try.func104, Try.ntmps104
    go_wp2
    go_ret
    exact ⟨ret_bool (by simp; try omega), rfl⟩
/-- No error, or that of an argument. -/
def argE (b : Bool) : Int := match b with | true => 0 | false => 18
theorem check_long (s : ByteArray) (m : Nat) (v : Value) (h : s.size = 0 ∨ m < s.size) (w : World) : Calls Try.prog 101 #[.string s, .int .i64 (m : Int), v] w fun e w' => e = .returned (.int .i64 18) ∧ w = w' := by
  by_cases h0 : s.size = 0
  · obtain rfl : s = ByteArray.empty := by
      apply ByteArray.ext; exact Array.eq_empty_of_size_eq_zero h0
    go_enter Try.func101, Try.ntmps101
    go_wp2
    go_ret
    exact ⟨rfl, rfl⟩
  · have hlt : m < s.size := by omega
    have hne : s.toList.isEmpty = false := by rw [ByteArray.toList_eq]; cases hl : s.data.toList with
      | nil => rw [blen, hl] at h0; exact absurd rfl h0
      | cons c l => rfl
    clear h h0
    go_enter Try.func101, Try.ntmps101
    go_wp2
    go_ret
    exact ⟨rfl, rfl⟩
theorem check63 (s : ByteArray) (m : Nat) (p : Addr) (q : Nat → Bool) (h0 : 0 < s.size) (h1 : s.size ≤ m) (hm : m ≤ 2048) (w : World) (H : ∀ i, i < s.size → Calls Try.prog 102 #[.int .i64 (i : Int), .pointer (some p)] w fun e w' => e = .returned (.bool (q i)) ∧ w = w') : Calls Try.prog 101 #[.string s, .int .i64 (m : Int), .func (.func 102) #[] #[.pointer (some p)]] w fun e w' => e = .returned (.int .i64 (argE (allB q s.size))) ∧ w = w' := by
  have HH := Lib.hid H
  have hne : s.toList.isEmpty = false := by rw [ByteArray.toList_eq]; cases hl : s.data.toList with
    | nil => rw [blen, hl] at h0; cases h0
    | cons c l => rfl
  have hdm : decide (m < s.size) = false := decide_eq_false (by omega)
  clear H
  go_enter Try.func101, Try.ntmps101
  go_wp2
  go_loop [18] (fun i => ∃ k : Nat, k ≤ s.size ∧ Hid (allB q k = true) ∧ i = .int .i64 k) (fun i => s.size - (intOf i).toNat)
  case atStart => exact ⟨0, by omega, Lib.hid rfl, rfl⟩
  case round =>
    obtain ⟨k, hk, HA, rfl⟩ := hrel
    have hsb : s.size ≤ 2048 := by omega
    clear hne h0 h1 hm hdm
    by_cases hlt : k < s.size
    · cases hq : q k with
      | true =>
        have HQ := Lib.hid hq
        go_wp2_with fail
        refine (HH.out k hlt).mono ?_
        rintro e w' ⟨rfl, rfl⟩
        rw [hq]
        go_wp2
        go_round
        case rel => exact ⟨k + 1, by omega, Lib.hid (by rw [all_snoc, HA.out, HQ.out]; rfl), by simp⟩
        case measure => simp [intOf]; omega
      | false =>
        have HQ := Lib.hid (all_not q k s.size hlt hq)
        go_wp2_with fail
        refine (HH.out k hlt).mono ?_
        rintro e w' ⟨rfl, rfl⟩
        rw [hq]
        go_wp2
        go_ret
        exact ⟨ret_int (by rw [HQ.out]; rfl), rfl⟩
    · obtain rfl : k = s.size := by omega
      go_wp2
      go_ret
      exact ⟨ret_int (by rw [HA.out]; rfl), rfl⟩
theorem check66 (s : ByteArray) (m : Nat) (p : Addr) (q : Nat → Bool) (h0 : 0 < s.size) (h1 : s.size ≤ m) (hm : m ≤ 2048) (w : World) (H : ∀ i, i < s.size → Calls Try.prog 105 #[.int .i64 (i : Int), .pointer (some p)] w fun e w' => e = .returned (.bool (q i)) ∧ w = w') : Calls Try.prog 101 #[.string s, .int .i64 (m : Int), .func (.func 105) #[] #[.pointer (some p)]] w fun e w' => e = .returned (.int .i64 (argE (allB q s.size))) ∧ w = w' := by
  have HH := Lib.hid H
  have hne : s.toList.isEmpty = false := by rw [ByteArray.toList_eq]; cases hl : s.data.toList with
    | nil => rw [blen, hl] at h0; cases h0
    | cons c l => rfl
  have hdm : decide (m < s.size) = false := decide_eq_false (by omega)
  clear H
  go_enter Try.func101, Try.ntmps101
  go_wp2
  go_loop [18] (fun i => ∃ k : Nat, k ≤ s.size ∧ Hid (allB q k = true) ∧ i = .int .i64 k) (fun i => s.size - (intOf i).toNat)
  case atStart => exact ⟨0, by omega, Lib.hid rfl, rfl⟩
  case round =>
    obtain ⟨k, hk, HA, rfl⟩ := hrel
    have hsb : s.size ≤ 2048 := by omega
    clear hne h0 h1 hm hdm
    by_cases hlt : k < s.size
    · cases hq : q k with
      | true =>
        have HQ := Lib.hid hq
        go_wp2_with fail
        refine (HH.out k hlt).mono ?_
        rintro e w' ⟨rfl, rfl⟩
        rw [hq]
        go_wp2
        go_round
        case rel => exact ⟨k + 1, by omega, Lib.hid (by rw [all_snoc, HA.out, HQ.out]; rfl), by simp⟩
        case measure => simp [intOf]; omega
      | false =>
        have HQ := Lib.hid (all_not q k s.size hlt hq)
        go_wp2_with fail
        refine (HH.out k hlt).mono ?_
        rintro e w' ⟨rfl, rfl⟩
        rw [hq]
        go_wp2
        go_ret
        exact ⟨ret_int (by rw [HQ.out]; rfl), rfl⟩
    · obtain rfl : k = s.size := by omega
      go_wp2
      go_ret
      exact ⟨ret_int (by rw [HA.out]; rfl), rfl⟩
theorem bucketF_any (s : ByteArray) (x i : Nat) (hi : i < s.size) (hs : s.size ≤ 2048) (w : World) (hc : w.cell? ⟨x, 0, none⟩ = some (.string s)) : Calls Try.prog 102 #[.int .i64 (i : Int), .pointer (some ⟨x, 0, none⟩)] w fun e w' => e = .returned (.bool (bkB s i)) ∧ w = w' := by
  have hb : bkB s i = (lowB s[i].toNat || digB s[i].toNat || (s[i].toNat == 45 && (decide (0 < i) && decide (i + 1 < s.size)))) := by unfold bkB; rw [dif_pos hi]
  have HB := Lib.hid hb
  have h1 := Lib.hid (isLower_any s[i].toNat)
  have h2 := Lib.hid (isDigit_any s[i].toNat)
  clear hb
  obtain ⟨lo, hlo⟩ : ∃ lo, lowB s[i].toNat = lo := ⟨_, rfl⟩
  obtain ⟨di, hdi⟩ : ∃ di, digB s[i].toNat = di := ⟨_, rfl⟩
  obtain ⟨c, hsc⟩ : ∃ c : Nat, s[i].toNat = c := ⟨_, rfl⟩
  obtain ⟨b0, hb0⟩ : ∃ b, decide (0 < i) = b := ⟨_, rfl⟩
  obtain ⟨b1, hb1⟩ : ∃ b, decide (i + 1 < s.size) = b := ⟨_, rfl⟩
  rw [hlo, hdi, hb0, hb1, hsc] at HB
  have H1 : Hid (∀ w, Calls Try.prog 103 #[.int .u8 (c : Int)] w fun e w' => e = .returned (.bool lo) ∧ w = w') := Lib.hid (by rw [← hlo, ← hsc]; exact h1.out)
  have H2 : Hid (∀ w, Calls Try.prog 104 #[.int .u8 (c : Int)] w fun e w' => e = .returned (.bool di) ∧ w = w') := Lib.hid (by rw [← hdi, ← hsc]; exact h2.out)
  clear hlo hdi h1 h2
  have hi0 : if b0 then 0 < i else ¬ 0 < i := by cases b0; exact of_decide_eq_false hb0; exact of_decide_eq_true hb0
  have hi1 : if b1 then i + 1 < s.size else ¬ i + 1 < s.size := by cases b1; exact of_decide_eq_false hb1; exact of_decide_eq_true hb1
  clear hb0 hb1
  by_cases h45 : c = 45
  · subst h45
    have HB2 : Hid (bkB s i = (lo || di || (b0 && b1))) := Lib.hid (by rw [HB.out]; rfl)
    clear HB
    cases b0 <;> cases b1 <;> cases lo <;> cases di <;> simp only [Bool.false_eq_true, if_true, if_false] at hi0 hi1 <;>
    · go_enter Try.func102, Try.ntmps102
      go_wp2_with (first | (go_at_call 103; refine (H1.out _).mono ?_; rintro e w' ⟨rfl, rfl⟩) | (go_at_call 104; refine (H2.out _).mono ?_; rintro e w' ⟨rfl, rfl⟩))
      go_ret
      exact ⟨ret_bool (by first | exact HB2.out.symm | (rw [HB2.out]; simp; omega)), rfl⟩
  · have HB2 : Hid (bkB s i = (lo || di)) := Lib.hid (by rw [HB.out, beq_false_of_ne h45]; cases lo <;> cases di <;> rfl)
    clear HB
    cases b0 <;> cases b1 <;> cases lo <;> cases di <;> simp only [Bool.false_eq_true, if_true, if_false] at hi0 hi1 <;>
    · go_enter Try.func102, Try.ntmps102
      go_wp2_with (first | (go_at_call 103; refine (H1.out _).mono ?_; rintro e w' ⟨rfl, rfl⟩) | (go_at_call 104; refine (H2.out _).mono ?_; rintro e w' ⟨rfl, rfl⟩))
      go_ret
      exact ⟨ret_bool (by first | exact HB2.out.symm | (rw [HB2.out]; simp; omega)), rfl⟩
theorem bucket_any (s : ByteArray) (hs : s.size ≤ maxLen) (w : World) : Calls Try.prog 57 #[.string s] w fun e w' => e = .returned (.int .i64 (argE (decide (0 < s.size ∧ s.size ≤ 12) && allB (bkB s) s.size))) ∧ Below w.heap.size w w' := by
  replace hs : s.size ≤ 9223372036854775807 := hs
  have hB : Below w.heap.size w (w.alloc (.cells #[.string s] 9)) := (Below.refl _ _).alloc (Nat.le_refl _) _
  by_cases h : 0 < s.size ∧ s.size ≤ 12
  · have HR := Lib.hid (show (decide (0 < s.size ∧ s.size ≤ 12) && allB (bkB s) s.size) = allB (bkB s) s.size by rw [decide_eq_true h]; rfl)
    obtain ⟨h1, h2⟩ := h
    go_enter Try.func57, Try.ntmps57
    go_wp2_with fail
    refine (check63 s 12 ⟨w.heap.size, 0, none⟩ (bkB s) h1 h2 (by omega) _ (fun i hi => bucketF_any s _ i hi (by omega) _ (by simp [go_sem]))).mono ?_
    rintro e w' ⟨rfl, rfl⟩
    go_wp2
    go_ret
    exact ⟨ret_int (by rw [HR.out]), hB⟩
  · have HR := Lib.hid (show (decide (0 < s.size ∧ s.size ≤ 12) && allB (bkB s) s.size) = false by rw [decide_eq_false h]; rfl)
    go_enter Try.func57, Try.ntmps57
    go_wp2_with fail
    refine (check_long s 12 _ (by omega) _).mono ?_
    rintro e w' ⟨rfl, rfl⟩
    go_wp2
    go_ret
    exact ⟨ret_int (by rw [HR.out]; rfl), hB⟩
theorem keyF_any (s : ByteArray) (x i : Nat) (hi : i < s.size) (hs : s.size ≤ 2048) (w : World) (hc : w.cell? ⟨x, 0, none⟩ = some (.string s)) : Calls Try.prog 105 #[.int .i64 (i : Int), .pointer (some ⟨x, 0, none⟩)] w fun e w' => e = .returned (.bool (keyB s i)) ∧ w = w' := by
  have hb : keyB s i = !(s[i].toNat == 0) := by unfold keyB; rw [dif_pos hi]
  have HB := Lib.hid hb
  clear hb
  go_enter Try.func105, Try.ntmps105
  go_wp2
  go_ret
  exact ⟨ret_bool (by rw [HB.out, Bool.eq_iff_iff]; simp; try omega), rfl⟩
theorem key_any (s : ByteArray) (hs : s.size ≤ maxLen) (w : World) : Calls Try.prog 58 #[.string s] w fun e w' => e = .returned (.int .i64 (argE (decide (0 < s.size ∧ s.size ≤ 24) && allB (keyB s) s.size))) ∧ Below w.heap.size w w' := by
  replace hs : s.size ≤ 9223372036854775807 := hs
  have hB : Below w.heap.size w (w.alloc (.cells #[.string s] 9)) := (Below.refl _ _).alloc (Nat.le_refl _) _
  by_cases h : 0 < s.size ∧ s.size ≤ 24
  · have HR := Lib.hid (show (decide (0 < s.size ∧ s.size ≤ 24) && allB (keyB s) s.size) = allB (keyB s) s.size by rw [decide_eq_true h]; rfl)
    obtain ⟨h1, h2⟩ := h
    go_enter Try.func58, Try.ntmps58
    go_wp2_with fail
    refine (check66 s 24 ⟨w.heap.size, 0, none⟩ (keyB s) h1 h2 (by omega) _ (fun i hi => keyF_any s _ i hi (by omega) _ (by simp [go_sem]))).mono ?_
    rintro e w' ⟨rfl, rfl⟩
    go_wp2
    go_ret
    exact ⟨ret_int (by rw [HR.out]), hB⟩
  · have HR := Lib.hid (show (decide (0 < s.size ∧ s.size ≤ 24) && allB (keyB s) s.size) = false by rw [decide_eq_false h]; rfl)
    go_enter Try.func58, Try.ntmps58
    go_wp2_with fail
    refine (check_long s 24 _ (by omega) _).mono ?_
    rintro e w' ⟨rfl, rfl⟩
    go_wp2
    go_ret
    exact ⟨ret_int (by rw [HR.out]; rfl), hB⟩
end Go.Proofs.Yteekjndhehnpaaa
