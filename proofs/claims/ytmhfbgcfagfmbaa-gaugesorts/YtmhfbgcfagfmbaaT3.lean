/- Contracts of tally.Add, tally.Left and of the references of Sum and Left. -/
import Derived.Test.YtmhfbgcfagfmbaaT2
namespace Go.Proofs.Ytmhfbgcfagfmbaa
open Go.RowKit

theorem sumF_two (a b : Int) : sumF [a, b] = addF a b := by
  unfold sumF addF
  simp only [List.all_cons, List.all_nil, Bool.and_true, List.sum_cons, List.sum_nil, Int.add_zero]
  by_cases h : (inRB a && inRB b) = true
  · rw [if_pos h, if_pos h]
    by_cases hs : a + b ≤ 1125899906842624
    · rw [if_pos hs, if_neg (by omega)]
    · rw [if_neg hs, if_pos (by omega)]
  · rw [if_neg h, if_neg h]

theorem ints_new (w : World) (zs : List Int) : Ints (w.alloc (.cells (zs.map (Value.int .i64)).toArray 2)) (some ⟨w.heap.size, 0, none⟩) zs.length zs := by
  refine ⟨rfl, .inr ⟨_, _, rfl, fun j hj => ?_⟩⟩
  simp [go_sem, hj]

theorem add_any (a b : Int) (w : World) :
    Calls Try.prog 14 #[.int .i64 a, .int .i64 b] w fun e w' => e = two (addF a b) ∧ Below w.heap.size w w' := by
  rw [← sumF_two]
  go_enter Try.func14, Try.ntmps14
  go_wp2_with fail
  refine (sum_any _ 2 2 [a, b] _ (by omega) (ints_new w [a, b])).mono ?_
  rintro e w' ⟨rfl, rfl⟩
  unfold two
  go_wp2
  go_ret2
  exact ⟨rfl, (Below.refl _ _).alloc (Nat.le_refl _) _⟩

theorem left_any (a b : Int) (w : World) :
    Calls Try.prog 19 #[.int .i64 a, .int .i64 b] w fun e w' => e = .returned (.int .i64 (leftF a b)) ∧ w = w' := by
  by_cases hb : b = -1
  · subst hb
    by_cases ha : inRB a = true
    · have := inRB_true.1 ha
      have hm : inRB 1125899906842624 = true := by rw [inRB_true]; omega
      go_enter Try.func19, Try.ntmps19
      go_wp2_with (go_at_call 56; refine (inRange_any _ _).mono ?_; rintro e w' ⟨rfl, rfl⟩)
      go_ret
      exact ⟨ret_int (by simp [leftF, ha]), rfl⟩
    · rw [Bool.not_eq_true] at ha
      go_enter Try.func19, Try.ntmps19
      go_wp2_with (go_at_call 56; refine (inRange_any _ _).mono ?_; rintro e w' ⟨rfl, rfl⟩)
      go_ret
      exact ⟨ret_int (by simp [leftF, ha]), rfl⟩
  · have hb1 : (b == -1) = false := by simpa using hb
    by_cases ha : inRB a = true
    · have := inRB_true.1 ha
      by_cases hbi : inRB b = true
      · have := inRB_true.1 hbi
        by_cases hlt : b < a
        all_goals
          go_enter Try.func19, Try.ntmps19
          go_wp2_with (go_at_call 56; refine (inRange_any _ _).mono ?_; rintro e w' ⟨rfl, rfl⟩)
          go_ret
          exact ⟨ret_int (by unfold leftF; rw [if_pos ha, if_neg hb, if_pos hbi]; split <;> omega), rfl⟩
      · rw [Bool.not_eq_true] at hbi
        go_enter Try.func19, Try.ntmps19
        go_wp2_with (go_at_call 56; refine (inRange_any _ _).mono ?_; rintro e w' ⟨rfl, rfl⟩)
        go_ret
        exact ⟨ret_int (by simp [leftF, ha, hb, hbi]), rfl⟩
    · rw [Bool.not_eq_true] at ha
      go_enter Try.func19, Try.ntmps19
      go_wp2_with (go_at_call 56; refine (inRange_any _ _).mono ?_; rintro e w' ⟨rfl, rfl⟩)
      go_ret
      exact ⟨ret_int (by simp [leftF, ha]), rfl⟩

theorem rleft_any (a b : Int) (w : World) :
    Calls Try.prog 20 #[.int .i64 a, .int .i64 b] w fun e w' => e = .returned (.int .i64 (leftF a b)) ∧ w = w' := by
  by_cases hb : b = -1
  · subst hb
    by_cases ha : inRB a = true
    · have := inRB_true.1 ha
      go_enter Try.func20, Try.ntmps20
      go_wp2_with (go_at_call 55; refine (counts_any _ _).mono ?_; rintro e w' ⟨rfl, rfl⟩)
      go_ret
      exact ⟨ret_int (by simp [leftF, ha]), rfl⟩
    · rw [Bool.not_eq_true] at ha
      go_enter Try.func20, Try.ntmps20
      go_wp2_with (go_at_call 55; refine (counts_any _ _).mono ?_; rintro e w' ⟨rfl, rfl⟩)
      go_ret
      exact ⟨ret_int (by simp [leftF, ha]), rfl⟩
  · have hb1 : (b == -1) = false := by simpa using hb
    by_cases ha : inRB a = true
    · have := inRB_true.1 ha
      by_cases hbi : inRB b = true
      · have := inRB_true.1 hbi
        by_cases hlt : b < a
        all_goals
          go_enter Try.func20, Try.ntmps20
          go_wp2_with (go_at_call 55; refine (counts_any _ _).mono ?_; rintro e w' ⟨rfl, rfl⟩)
          go_ret
          exact ⟨ret_int (by unfold leftF; rw [if_pos ha, if_neg hb, if_pos hbi]; split <;> omega), rfl⟩
      · rw [Bool.not_eq_true] at hbi
        go_enter Try.func20, Try.ntmps20
        go_wp2_with (go_at_call 55; refine (counts_any _ _).mono ?_; rintro e w' ⟨rfl, rfl⟩)
        go_ret
        exact ⟨ret_int (by simp [leftF, ha, hb, hbi]), rfl⟩
    · rw [Bool.not_eq_true] at ha
      go_enter Try.func20, Try.ntmps20
      go_wp2_with (go_at_call 55; refine (counts_any _ _).mono ?_; rintro e w' ⟨rfl, rfl⟩)
      go_ret
      exact ⟨ret_int (by simp [leftF, ha]), rfl⟩
end Go.Proofs.Ytmhfbgcfagfmbaa
