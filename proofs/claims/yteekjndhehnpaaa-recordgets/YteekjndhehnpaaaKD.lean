/- Contracts: the reference's names. -/
import Derived.Test.YteekjndhehnpaaaKC
namespace Go.Proofs.Yteekjndhehnpaaa
open Go.RowKit
set_option maxRecDepth 100000
set_option linter.unusedVariables false
theorem between_any (c lo hi : Nat) (w : World) : Calls Try.prog 106 #[.int .u8 (c : Int), .int .u8 (lo : Int), .int .u8 (hi : Int)] w fun e w' => e = .returned (.bool (decide (lo ≤ c) && decide (c ≤ hi))) ∧ w = w' := by
  by_cases h1 : lo ≤ c
  · by_cases h2 : c ≤ hi <;>
    · go_enter Try.func106, Try.ntmps106
      go_wp2
      go_ret
      exact ⟨ret_bool (by simp [h1, h2]; try omega), rfl⟩
  · go_enter Try.func106, Try.ntmps106
    go_wp2
    go_ret
    exact ⟨ret_bool (by simp; try omega), rfl⟩
theorem rprefix_any (s : ByteArray) (hs : s.size ≤ 9223372036854775806) (w : World) : Calls Try.prog 107 #[.string s] w fun e w' => e = .returned (.bool (allB (keyB s) s.size && decide (s.size ≤ 24))) ∧ w = w' := by
  go_enter Try.func107, Try.ntmps107
  go_wp2
  go_loop [3] (fun i => ∃ k : Nat, k ≤ s.size ∧ Hid (allB (keyB s) k = true) ∧ i = .int .i64 k) (fun i => s.size - (intOf i).toNat)
  case atStart => exact ⟨0, by omega, Lib.hid rfl, rfl⟩
  case round =>
    obtain ⟨k, hk, HA, rfl⟩ := hrel
    by_cases hlt : k < s.size
    · by_cases hz : s[k].toNat = 0
      · have HQ := Lib.hid (all_not (keyB s) k s.size hlt (by unfold keyB; rw [dif_pos hlt, hz]; rfl))
        have hz' : (s[k].toNat : Int) = 0 := by omega
        clear hz
        go_wp2
        go_ret
        exact ⟨ret_bool (by rw [HQ.out]; rfl), rfl⟩
      · have HQ := Lib.hid (show keyB s k = true by unfold keyB; rw [dif_pos hlt, beq_false_of_ne hz]; rfl)
        have hz' : ¬ (s[k].toNat : Int) = 0 := by omega
        clear hz
        go_wp2
        go_round
        case rel => exact ⟨k + 1, by omega, Lib.hid (by rw [all_snoc, HA.out, HQ.out]; rfl), by simp⟩
        case measure => simp [intOf]; omega
    · obtain rfl : k = s.size := by omega
      go_wp2
      go_ret
      exact ⟨ret_bool (by rw [HA.out, Bool.eq_iff_iff]; simp; try omega), rfl⟩
theorem rkey_any (s : ByteArray) (hs : s.size ≤ 9223372036854775806) (w : World) : Calls Try.prog 60 #[.string s] w fun e w' => e = .returned (.bool (decide (0 < s.size ∧ s.size ≤ 24) && allB (keyB s) s.size)) ∧ w = w' := by
  have HP := Lib.hid (rprefix_any s hs)
  by_cases h0 : 0 < s.size
  · obtain ⟨b, hb⟩ : ∃ b, (allB (keyB s) s.size && decide (s.size ≤ 24)) = b := ⟨_, rfl⟩
    have HR := Lib.hid (show (decide (0 < s.size ∧ s.size ≤ 24) && allB (keyB s) s.size) = b by
      rw [← hb, Bool.and_comm]; congr 1; simp [h0])
    rw [hb] at HP
    clear hb
    go_enter Try.func60, Try.ntmps60
    go_wp2_with fail
    refine (HP.out _).mono ?_
    rintro e w' ⟨rfl, rfl⟩
    go_wp2
    go_ret
    exact ⟨ret_bool (by rw [HR.out]; try simp), rfl⟩
  · have HR := Lib.hid (show (decide (0 < s.size ∧ s.size ≤ 24) && allB (keyB s) s.size) = false by
      rw [decide_eq_false (by omega)]; rfl)
    go_enter Try.func60, Try.ntmps60
    go_wp2
    go_ret
    exact ⟨ret_bool (by rw [HR.out]; try simp), rfl⟩
/-- What the reference asks of a bucket's name. -/
def rbkB (s : ByteArray) (i : Nat) : Bool := if h : i < s.size then lowB s[i].toNat || digB s[i].toNat || (s[i].toNat == 45) else false
theorem bucketB_no (s : ByteArray) (h : ¬ (0 < s.size ∧ s.size ≤ 12)) : bucketB s = false := by unfold bucketB; rw [decide_eq_false h]; rfl
theorem bkB_at (s : ByteArray) (i : Nat) (h : i < s.size) : bkB s i = (lowB s[i].toNat || digB s[i].toNat || (s[i].toNat == 45 && (decide (0 < i) && decide (i + 1 < s.size)))) := by unfold bkB; rw [dif_pos h]
theorem bucketB_first (s : ByteArray) (h : 0 < s.size) (h45 : s[0].toNat = 45) : bucketB s = false := by
  unfold bucketB
  rw [all_not (bkB s) 0 s.size h (by rw [bkB_at s 0 h, h45, decide_eq_false (show ¬ 0 < 0 by omega)]; simp; decide)]
  simp
theorem bucketB_last (s : ByteArray) (h : 0 < s.size) (h45 : (s[s.size - 1]'(by omega)).toNat = 45) : bucketB s = false := by
  unfold bucketB
  rw [all_not (bkB s) (s.size - 1) s.size (by omega) (by
    rw [bkB_at s (s.size - 1) (by omega), h45, decide_eq_false (show ¬ s.size - 1 + 1 < s.size by omega)]; simp; decide)]
  simp
theorem bucketB_bad (s : ByteArray) (k : Nat) (h : k < s.size) (hb : rbkB s k = false) : bucketB s = false := by
  unfold bucketB
  rw [all_not (bkB s) k s.size h (by
    rw [bkB_at s k h]
    unfold rbkB at hb
    rw [dif_pos h] at hb
    revert hb
    cases lowB s[k].toNat <;> cases digB s[k].toNat <;> cases (s[k].toNat == 45) <;> simp)]
  simp
theorem bucketB_good (s : ByteArray) (h : 0 < s.size ∧ s.size ≤ 12) (h0 : ¬ (s[0]'(h.1)).toNat = 45) (h1 : ¬ (s[s.size - 1]'(by omega)).toNat = 45) (ha : allB (rbkB s) s.size = true) : bucketB s = true := by
  unfold bucketB
  rw [decide_eq_true h]
  show allB (bkB s) s.size = true
  rw [allB_iff] at ha ⊢
  intro i hi
  have := ha i hi
  unfold rbkB at this
  rw [dif_pos hi] at this
  rw [bkB_at s i hi]
  by_cases h45 : s[i].toNat = 45
  · have hi0 : 0 < i := by
      rcases Nat.eq_zero_or_pos i with rfl | h; exact absurd h45 h0; exact h
    have hi1 : i + 1 < s.size := by
      rcases Nat.lt_or_ge (i + 1) s.size with h | hge
      · exact h
      · exfalso; have : i = s.size - 1 := by omega
        subst this; exact h1 h45
    rw [decide_eq_true hi0, decide_eq_true hi1]; simpa using this
  · rw [beq_false_of_ne h45] at this ⊢; simpa using this
set_option maxHeartbeats 1000000 in
theorem rbucket_any (s : ByteArray) (w : World) (hs : s.size ≤ 9223372036854775806) : Calls Try.prog 59 #[.string s] w fun e w' => e = .returned (.bool (bucketB s)) ∧ w = w' := by
  by_cases h : 0 < s.size ∧ s.size ≤ 12
  · obtain ⟨h1, h2⟩ := h
    obtain ⟨m, hm, hm'⟩ : ∃ m : Nat, m + 1 = s.size ∧ (s.size : Int) - 1 = (m : Int) := ⟨s.size - 1, by omega, by omega⟩
    have hml : m < s.size := by omega
    have hmm : m = s.size - 1 := by omega
    by_cases h0 : s[0].toNat = 45
    · have HR := Lib.hid (bucketB_first s h1 h0)
      have h0' : (s[0].toNat : Int) = 45 := by omega
      clear h0 hm hmm hm'
      go_enter Try.func59, Try.ntmps59
      go_wp2
      go_ret
      exact ⟨ret_bool HR.out.symm, rfl⟩
    · have h0' : ¬ (s[0].toNat : Int) = 45 := by omega
      by_cases hl : s[m].toNat = 45
      · have HR := Lib.hid (bucketB_last s h1 (by subst hmm; exact hl))
        have hl' : (s[m].toNat : Int) = 45 := by omega
        clear h0 hm hmm hl
        go_enter Try.func59, Try.ntmps59
        go_wp2
        go_ret
        exact ⟨ret_bool HR.out.symm, rfl⟩
      · have hl' : ¬ (s[m].toNat : Int) = 45 := by omega
        have HG := Lib.hid (bucketB_good s ⟨h1, h2⟩ h0 (by subst hmm; exact hl))
        have h0b : ((s[0].toNat : Int) == 45) = false := beq_false_of_ne h0'
        have hlb : ((s[m].toNat : Int) == 45) = false := beq_false_of_ne hl'
        have d1 : decide ((s.size : Int) < 1) = false := decide_eq_false (by omega)
        have d2 : decide (12 < (s.size : Int)) = false := decide_eq_false (by omega)
        clear h0 hm hmm hl
        go_enter Try.func59, Try.ntmps59
        go_wp2
        go_loop [3] (fun i => ∃ k : Nat, k ≤ s.size ∧ Hid (allB (rbkB s) k = true) ∧ i = .int .i64 k) (fun i => s.size - (intOf i).toNat)
        case atStart => exact ⟨0, by omega, Lib.hid rfl, rfl⟩
        case round =>
          obtain ⟨k, hk, HA, rfl⟩ := hrel
          clear h0' hl' hm' h0b hlb d1 d2
          by_cases hlt : k < s.size
          · obtain ⟨c, hc, HC⟩ : ∃ c : Nat, s[k].toNat = c ∧ Hid (s[k].toNat = c) := ⟨_, rfl, Lib.hid rfl⟩
            have HB := Lib.hid (show rbkB s k = (lowB c || digB c || (c == 45)) by unfold rbkB; rw [dif_pos hlt, HC.out])
            obtain ⟨lo, hlo⟩ : ∃ lo, lowB c = lo := ⟨_, rfl⟩
            obtain ⟨di, hdi⟩ : ∃ di, digB c = di := ⟨_, rfl⟩
            have H1 : Hid (∀ w, Calls Try.prog 106 #[.int .u8 (c : Int), .int .u8 97, .int .u8 122] w fun e w' => e = .returned (.bool lo) ∧ w = w') := Lib.hid (by rw [← hlo]; exact between_any c 97 122)
            have H2 : Hid (∀ w, Calls Try.prog 106 #[.int .u8 (c : Int), .int .u8 48, .int .u8 57] w fun e w' => e = .returned (.bool di) ∧ w = w') := Lib.hid (by rw [← hdi]; exact between_any c 48 57)
            rw [hlo, hdi] at HB
            have HN := Lib.hid (bucketB_bad s k hlt)
            clear hlo hdi
            cases lo
            · cases di
              · by_cases h45 : c = 45
                · subst h45
                  go_wp2_with fail
                  refine (H1.out _).mono ?_
                  rintro e w' ⟨rfl, rfl⟩
                  go_wp2_with fail
                  refine (H2.out _).mono ?_
                  rintro e w' ⟨rfl, rfl⟩
                  go_wp2
                  go_round
                  case rel => exact ⟨k + 1, by omega, Lib.hid (by rw [all_snoc, HA.out, HB.out]; rfl), by simp⟩
                  case measure => simp [intOf]; omega
                · have HF := Lib.hid (HN.out (by rw [HB.out, beq_false_of_ne h45]; rfl))
                  have h45' : ¬ (c : Int) = 45 := by omega
                  clear h45
                  go_wp2_with fail
                  refine (H1.out _).mono ?_
                  rintro e w' ⟨rfl, rfl⟩
                  go_wp2_with fail
                  refine (H2.out _).mono ?_
                  rintro e w' ⟨rfl, rfl⟩
                  go_wp2
                  go_ret
                  exact ⟨ret_bool HF.out.symm, rfl⟩
              · go_wp2_with fail
                refine (H1.out _).mono ?_
                rintro e w' ⟨rfl, rfl⟩
                go_wp2_with fail
                refine (H2.out _).mono ?_
                rintro e w' ⟨rfl, rfl⟩
                go_wp2
                go_round
                case rel => exact ⟨k + 1, by omega, Lib.hid (by rw [all_snoc, HA.out, HB.out]; rfl), by simp⟩
                case measure => simp [intOf]; omega
            · go_wp2_with fail
              refine (H1.out _).mono ?_
              rintro e w' ⟨rfl, rfl⟩
              go_wp2
              go_round
              case rel => exact ⟨k + 1, by omega, Lib.hid (by rw [all_snoc, HA.out, HB.out]; rfl), by simp⟩
              case measure => simp [intOf]; omega
          · obtain rfl : k = s.size := by omega
            have HR := Lib.hid (HG.out HA.out)
            go_wp2
            go_ret
            exact ⟨ret_bool HR.out.symm, rfl⟩
  · have HR := Lib.hid (bucketB_no s h)
    by_cases h1 : s.size < 1
    · go_enter Try.func59, Try.ntmps59
      go_wp2
      go_ret
      exact ⟨ret_bool HR.out.symm, rfl⟩
    · have h2 : 12 < s.size := by omega
      clear h
      go_enter Try.func59, Try.ntmps59
      go_wp2
      go_ret
      exact ⟨ret_bool HR.out.symm, rfl⟩
end Go.Proofs.Yteekjndhehnpaaa
